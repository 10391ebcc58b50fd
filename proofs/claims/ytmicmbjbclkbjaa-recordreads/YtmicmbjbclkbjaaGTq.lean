/-
  Texts that ride together: RcQ TkA TkB TkR.
-/
import Derived.Test.YtmicmbjbclkbjaaRcO
import Derived.Test.YtmicmbjbclkbjaaGRq
import Derived.Test.YtmicmbjbclkbjaaRcW
/-
  A record of the call's own that is written to: its shape stays.
-/
namespace Go.Proofs.Ytmicmbjbclkbjaa
open Go.RowKit
/-- A cell of an owned row is written: some list still lies there. -/
theorem own_upd {α : Type} {E : Enc α} {w w' : World} {B g : Nat} {e : TypeId} {v : Value} {P : List α} {cur : List Value} {k t : Nat} {u : Value} (h : OwnG E w B e v P) (hv : v.ownBlock = some g) (hB : Blk w g e cur) (hb : Blk w' g e (cur.set (k * E.n + t) u)) (ht : t < E.n) (f : α → α) (hf : ∀ x, (E.c x).set t u = E.c (f x)) :
    ∃ P', OwnG E w' B e v P' ∧ (P' = P ∨ ∃ h : k < P.length, P' = P.set k (f P[k])) := by
  obtain ⟨h1, h2⟩ := h
  rcases h2 with ⟨rfl, _⟩ | ⟨g', cap, cur', rfl, hg, hh, h3, h4, h5, h6⟩
  · cases hv
  · simp only [Value.ownBlock, Option.some.injEq] at hv
    subst hv
    have hB' : w.heap[g']? = some (.cells cur.toArray e (0, 0)) := hB
    rw [hB'] at hh
    simp only [Option.some.injEq, Obj.cells.injEq, and_true] at hh
    subst hh
    simp only [List.size_toArray] at h5 h6
    by_cases hk : k < P.length
    · refine ⟨P.set k (f P[k]), ?_, .inr ⟨hk, rfl⟩⟩
      have := OwnG.of_blk (E := E) (B := B) (cap := cap) (L := P.set k (f P[k])) hb hg (by
        rw [List.length_set, List.take_set, h6]
        exact cs_set1 hk ht (hf _)) (by rw [List.length_set]; exact h5) (by rw [List.length_set]; exact h3) h4
      rwa [List.length_set] at this
    · refine ⟨P, OwnG.of_blk (E := E) (B := B) (cap := cap) hb hg ?_ (by rw [List.length_set]; exact h5) h3 h4, .inl rfl⟩
      rw [List.take_set_of_le (by
        have : P.length * E.n ≤ k * E.n := Nat.mul_le_mul_right _ (by omega)
        omega)]
      exact h6
def bigN (c : Nat) : Nat := 140737488351232 + c
/-- A record's copy: written to, but of the same shape; c: how often. -/
structure Mut (w : World) (B : Nat) (d : Rc) (c : Nat) : Prop where
  rs : ∃ L, OwnG XE w B 39 (rv d) L ∧ ∀ i (h : i < L.length) (h2 : i < d.rs.length), xv L[i] = xv d.rs[i] ∧ L[i].k.size ≤ bigN c
  ps : ∀ x ∈ d.rs, ∃ P, OwnG PE w B 41 (xv x) P ∧ ∀ p ∈ P, p.2.1.size ≤ bigN c
  ws : ∃ P, OwnG PE w B 41 (wv d) P
theorem bigN_mono {c c' : Nat} (h : c ≤ c') : bigN c ≤ bigN c' := by unfold bigN; omega
theorem Mut.up {w : World} {B : Nat} {d : Rc} {c c' : Nat} (h : Mut w B d c) (hc : c ≤ c') : Mut w B d c' := by
  obtain ⟨⟨L, h1, h2⟩, h3, h4⟩ := h
  refine ⟨⟨L, h1, fun i hi hi2 => ⟨(h2 i hi hi2).1, Nat.le_trans (h2 i hi hi2).2 (bigN_mono hc)⟩⟩, fun x hx => ?_, h4⟩
  obtain ⟨P, g1, g2⟩ := h3 x hx
  exact ⟨P, g1, fun p hp => Nat.le_trans (g2 p hp) (bigN_mono hc)⟩
theorem Mut.kept {w w' : World} {B : Nat} {d : Rc} {c : Nat} (h : Mut w B d c) (hb : Below w.heap.size w w') : Mut w' B d c := by
  obtain ⟨⟨L, h1, h2⟩, h3, ⟨P, h4⟩⟩ := h
  refine ⟨⟨L, h1.kept hb, h2⟩, fun x hx => ?_, ⟨P, h4.kept hb⟩⟩
  obtain ⟨P, g1, g2⟩ := h3 x hx
  exact ⟨P, g1.kept hb, g2⟩
theorem Mut.new {w : World} {B : Nat} {d : Rc} (h : OwnRc w B d) (hk : ∀ x ∈ d.rs, x.k.size ≤ bigN 0) (hv : ∀ x ∈ d.rs, ∀ p ∈ x.ps, p.2.1.size ≤ bigN 0) : Mut w B d 0 :=
  ⟨⟨d.rs, h.rs.row, fun _ h1 _ => ⟨rfl, hk _ (List.getElem_mem h1)⟩⟩, fun x hx => ⟨x.ps, h.rs.ps x hx, hv x hx⟩, ⟨d.ws, h.ws⟩⟩
/-- A block of pairs, where an element's value or mark is written. -/
theorem Mut.pair {w w' : World} {B g : Nat} {d : Rc} {c k t : Nat} {cur : List Value} {u : Value} (h : Mut w B d c) (hB : Blk w g 41 cur) (hb : Blk w' g 41 (cur.set (k * 3 + t) u)) (hu : But g w w') (ht : t < 3) (f : Pr → Pr) (hf : ∀ x, (PC x).set t u = PC (f x)) (hs : ∀ x : Pr, x.2.1.size ≤ bigN c → (f x).2.1.size ≤ bigN (c + 1)) : Mut w' B d (c + 1) := by
  obtain ⟨⟨L, h1, h2⟩, h3, ⟨Q, h4⟩⟩ := h
  have hC : Chg (fun k => k = g) w w' := Chg.of_but hu rfl
  have one : ∀ {v : Value} {P : List Pr}, OwnG PE w B 41 v P → ∃ P', OwnG PE w' B 41 v P' ∧ ((∀ p ∈ P, p.2.1.size ≤ bigN c) → ∀ p ∈ P', p.2.1.size ≤ bigN (c + 1)) := by
    intro v P ho
    by_cases hv : v.ownBlock = some g
    · obtain ⟨P', g1, g2⟩ := own_upd (E := PE) (k := k) ho hv hB hb ht f hf
      refine ⟨P', g1, fun hP p hp => ?_⟩
      rcases g2 with rfl | ⟨hk, rfl⟩
      · exact Nat.le_trans (hP p hp) (bigN_mono (Nat.le_succ c))
      · rcases List.mem_or_eq_of_mem_set hp with hp | rfl
        · exact Nat.le_trans (hP p hp) (bigN_mono (Nat.le_succ c))
        · exact hs _ (hP _ (List.getElem_mem hk))
    · exact ⟨P, ho.chg hC (fun j hj e => hv (e ▸ hj)), fun hP p hp => Nat.le_trans (hP p hp) (bigN_mono (Nat.le_succ c))⟩
  refine ⟨⟨L, h1.chg hC (fun j hj e => ?_), fun i hi hi2 => ⟨(h2 i hi hi2).1, Nat.le_trans (h2 i hi hi2).2 (bigN_mono (Nat.le_succ c))⟩⟩, fun x hx => ?_, ?_⟩
  · obtain ⟨_, _, cu, h5⟩ := h1.block hj
    exact cells_ne h5 hB (by decide) e
  · obtain ⟨P, g1, g2⟩ := h3 x hx
    obtain ⟨P', g3, g4⟩ := one g1
    exact ⟨P', g3, g4 g2⟩
  · obtain ⟨P', g3, _⟩ := one h4
    exact ⟨P', g3⟩
/-- A read's key is written. -/
theorem Mut.key {w w' : World} {B g : Nat} {d : Rc} {c i : Nat} {cur : List Value} {s : ByteArray} (h : Mut w B d c) (hB : Blk w g 39 cur) (hb : Blk w' g 39 (cur.set (i * 4 + 1) (.string s))) (hu : But g w w') (hs : s.size ≤ bigN (c + 1)) : Mut w' B d (c + 1) := by
  obtain ⟨⟨L, h1, h2⟩, h3, ⟨Q, h4⟩⟩ := h
  have hC : Chg (fun k => k = g) w w' := Chg.of_but hu rfl
  have hp : ∀ {B' : Nat} {v : Value} {l : List Pr}, OwnG PE w B' 41 v l → ∀ k, v.ownBlock = some k → ¬ k = g := fun ho k hk e => by
    obtain ⟨_, _, cu, h5⟩ := ho.block hk
    exact cells_ne h5 hB (by decide) e
  refine ⟨?_, fun x hx => ?_, ⟨Q, h4.chg hC (hp h4)⟩⟩
  · by_cases hv : (rv d).ownBlock = some g
    · obtain ⟨L', g1, g2⟩ := own_upd (E := XE) (k := i) h1 hv hB hb (by decide : 1 < XE.n) (fun x => ⟨x.sc, s, x.t, x.ps, x.ha, x.hc⟩) (fun x => rfl)
      refine ⟨L', g1, fun j hj hj2 => ?_⟩
      rcases g2 with rfl | ⟨hk, rfl⟩
      · exact ⟨(h2 j hj hj2).1, Nat.le_trans (h2 j hj hj2).2 (bigN_mono (Nat.le_succ c))⟩
      · have hj3 : j < L.length := by rwa [List.length_set] at hj
        by_cases e : i = j
        · subst e
          rw [List.getElem_set_self]
          exact ⟨(h2 i hj3 hj2).1, hs⟩
        · rw [List.getElem_set_ne e]
          exact ⟨(h2 j hj3 hj2).1, Nat.le_trans (h2 j hj3 hj2).2 (bigN_mono (Nat.le_succ c))⟩
    · exact ⟨L, h1.chg hC (fun j hj e => hv (e ▸ hj)), fun j hj hj2 => ⟨(h2 j hj hj2).1, Nat.le_trans (h2 j hj hj2).2 (bigN_mono (Nat.le_succ c))⟩⟩
  · obtain ⟨P, g1, g2⟩ := h3 x hx
    exact ⟨P, g1.chg hC (hp g1), fun p hp => Nat.le_trans (g2 p hp) (bigN_mono (Nat.le_succ c))⟩
/-- What lies at a place of an owned row. -/
theorem own_at {α : Type} {E : Enc α} {w : World} {B : Nat} {e : TypeId} {v : Value} {P : List α} (h : OwnG E w B e v P) {k : Nat} (hk : k < P.length) : ∃ g cap cur, v = .slice (some ⟨g, 0, none⟩) P.length cap ∧ B ≤ g ∧ Blk w g e cur ∧ P.length ≤ cap ∧ cap ≤ maxLen ∧ (∀ t u, (E.c P[k])[t]? = some u → w.cell? ⟨g, k * E.n + t, none⟩ = some u ∧ k * E.n + t < cur.length) := by
  obtain ⟨g, cap, cur, hv, hBg, hB, htk, hcl, hlc, hcm⟩ := h.blk (by omega)
  refine ⟨g, cap, cur, hv, hBg, hB, hlc, hcm, fun t u hu => ?_⟩
  have h1 := Enc.cs_get (E := E) hk hu
  rw [← htk, List.getElem?_take] at h1
  split at h1
  · exact ⟨hB.cell h1, (List.getElem?_eq_some_iff.1 h1).1⟩
  · cases h1
theorem add_x (s : ByteArray) (h : s.size ≤ 281474976710656) : ∀ W, (binOp .add 9 (.string s) (.string ⟨#[120]⟩)).run Try.prog W = .ok (.string (s ++ ⟨#[120]⟩)) W := fun W => by
  simp [binOp, go_sem]
  omega
theorem size_x (s : ByteArray) : (s ++ (⟨#[120]⟩ : ByteArray)).size = s.size + 1 := by
  rw [ByteArray.size_append]
  rfl
/-- A string into a cell. -/
theorem wpList_store_st {P : Program} {ops : Array Oper} {rest : List Oper} {o : Oper} {a : Act} {w : World} {Q : Exit → Act → World → Prop} (hgd : o.guard = none) (ty : TypeId) (hso : ∀ W, (sizeOf ty).run P W = .ok 1 W) (x y : Operand) (ho : o.op = .store ty x y) (b j : Nat) (T : TypeId) (cs : List Value) (s : ByteArray)
    (hx : a.eval x = .pointer (some ⟨b, j, none⟩)) (hy : a.eval y = .string s) (hB : Blk w b T cs) (hj : j < cs.length) (h : ∀ w', Blk w' b T (cs.set j (.string s)) → But b w w' → wpList P ops Q rest (a.put o.dst undef) w') : wpList P ops Q (o :: rest) a w := by
  have hc := hB.cell (j := j) (v := cs[j]) (List.getElem?_eq_getElem hj)
  have hf := hB.frozen j
  have hrun : (execOp a.eval o).run P w = .ok .skip (w.setCell ⟨b, j, none⟩ (.string s)) := by
    simp only [execOp, ho, hx, hy]
    go_simp
  refine wpList_plain hgd fun K hK => ?_
  unfold Oper.wp
  rw [hrun]
  exact hK _ _ (h _ (hB.set j (.string s)) (But.setCell b w j _))
theorem wpSeq_store_bo {P : Program} {o : Oper} {rest : List Oper} {a : Act} {w : World} {Q : Exit → Act → World → Prop} (hgd : o.guard = none) (ty : TypeId) (hso : ∀ W, (sizeOf ty).run P W = .ok 1 W) (x y : Operand) (ho : o.op = .store ty x y) (b j : Nat) (T : TypeId) (cs : List Value) (c : Bool)
    (hx : a.eval x = .pointer (some ⟨b, j, none⟩)) (hy : a.eval y = .bool c) (hB : Blk w b T cs) (hj : j < cs.length) (h : ∀ w', Blk w' b T (cs.set j (.bool c)) → But b w w' → wpSeq P Q rest (a.put o.dst undef) w') : wpSeq P Q (o :: rest) a w := by
  have hc := hB.cell (j := j) (v := cs[j]) (List.getElem?_eq_getElem hj)
  have hf := hB.frozen j
  have hrun : (execOp a.eval o).run P w = .ok .skip (w.setCell ⟨b, j, none⟩ (.bool c)) := by
    simp only [execOp, ho, hx, hy]
    go_simp
  refine ⟨hgd, ?_⟩
  unfold Oper.wp
  rw [hrun]
  exact ⟨undef, rfl, h _ (hB.set j (.bool c)) (But.setCell b w j _)⟩
theorem szst : ∀ W : World, (sizeOf 9).run Try.prog W = .ok 1 W := fun W => by kernel_rfl
theorem szbo : ∀ W : World, (sizeOf 4).run Try.prog W = .ok 1 W := fun W => by kernel_rfl
end Go.Proofs.Ytmicmbjbclkbjaa

/-
  The document's taker: num, flag, str: what the calls do.
-/
namespace Go.Proofs.Ytmicmbjbclkbjaa
open Go.RowKit
/-- Block D is a taker of bytes that lie in world w0: those that are left; none: it is bad. -/
structure TkAt (w0 w : World) (D : Nat) (s : Option (List UInt8)) : Prop where
  base : Below w0.heap.size w0 w
  lo : w0.heap.size ≤ D
  b : ∃ v l, Blk w D 52 [v, .bool (!s.isSome)] ∧ Rd w0 v l ∧ l.length ≤ 8192 ∧ ∀ z, s = some z → l = z
theorem TkAt.lt {w0 w : World} {D : Nat} {s : Option (List UInt8)} (h : TkAt w0 w D s) : D < w.heap.size := by
  obtain ⟨v, l, hb, _⟩ := h.b
  exact hb.lt
theorem TkAt.kept {w0 w w' : World} {D : Nat} {s : Option (List UInt8)} (h : TkAt w0 w D s) (hb : Below w.heap.size w w') : TkAt w0 w' D s := by
  obtain ⟨v, l, h1, h2⟩ := h.b
  exact ⟨h.base.trans (hb.mono h.base.size), h.lo, v, l, h1.kept hb, h2⟩
theorem TkAt.chg {w0 w w' : World} {D : Nat} {s : Option (List UInt8)} {F : Nat → Prop} (h : TkAt w0 w D s) (hc : Chg F w w') (hF : ¬ F D) (hw : ∀ k, k < w0.heap.size → ¬ F k) : TkAt w0 w' D s := by
  obtain ⟨v, l, h1, h2⟩ := h.b
  exact ⟨h.base.trans (hc.below h.base.size fun k hk e => hw k hk e), h.lo, v, l, h1.chg hc hF, h2⟩
theorem TkAt.neT {w0 w : World} {D M : Nat} {s : Option (List UInt8)} {T : TypeId} {cs : List Value} (h : TkAt w0 w D s) (hB : Blk w M T cs) (hT : T ≠ 52) : M ≠ D := fun e => by
  obtain ⟨v, l, h1, _⟩ := h.b
  exact cells_ne hB h1 hT e
set_option maxHeartbeats 2000000 in
set_option maxRecDepth 100000 in
theorem knum_any {w0 w : World} {D : Nat} {s : Option (List UInt8)} (h : TkAt w0 w D s) (m : Nat) (hm : m ≤ 1099511627776) :
    Calls Try.prog 19 #[PT D, .int .u64 (m : Int)] w fun e w' => e = .returned (.int .i64 ((got (pN m) 0 s : Nat) : Int)) ∧ TkAt w0 w' D (aft (pN m) s) ∧ Chg (fun k => k = D) w w' := by
  obtain ⟨v, l, hb, hrd, hl, hs⟩ := h.b
  have H := hide h
  have BB := hide hb
  have HRW := hide (hrd.kept h.base)
  obtain ⟨a, cap, rfl⟩ := hrd.slice
  obtain ⟨n0, Hn0⟩ : ∃ z, Hid (l.length = z) := ⟨_, rfl⟩
  have hcap : n0 ≤ cap := by
    obtain ⟨_, _, e, g1, _⟩ := hrd
    simp only [Value.slice.injEq] at e
    have := Hn0.out
    omega
  have CG := hide (refGetNum_any _ l w HRW.out (by omega))
  rw [Hn0.out] at CG BB
  obtain ⟨bd, Hbd⟩ : ∃ z, Hid ((!s.isSome) = z) := ⟨_, rfl⟩
  rw [Hbd.out] at BB
  have FN : Hid (∀ w1 w2, Below w.heap.size w w1 → Blk w2 D 52 [.slice a n0 cap, .bool true] → But D w1 w2 → TkAt w0 w2 D none ∧ Chg (fun k => k = D) w w2) := (show ∀ w1 w2, _ from fun w1 w2 h1 h2 h3 => by
    have hC : Chg (fun k => k = D) w w2 := (Chg.of_below h1).trans (Chg.of_but h3 rfl)
    refine ⟨⟨h.base.trans (hC.below h.base.size fun k hk e => by have := h.lo; omega), h.lo, _, l, h2, by rw [← Hn0.out]; exact hrd, hl, fun z e => by cases e⟩, hC⟩)
  have d0 := BB.out.cell (j := 0) rfl
  have d1 := BB.out.cell (j := 1) rfl
  rcases gn_cases l with hg | ⟨n, k, hg⟩
  · have HA : Hid (aft (pN m) s = none ∧ got (pN m) 0 s = 0) := (show _ ∧ _ from by
      cases s with
      | none => exact ⟨rfl, rfl⟩
      | some z =>
        obtain rfl := hs z rfl
        have : pN m l = none := by unfold pN; rw [hg]; simp
        exact ⟨aft_no this, got_no this⟩)
    rw [hg] at CG
    clear h hb hrd hs
    go_enter Try.func19, Try.ntmps19
    go_wp2_with fail
    refine CG.out.mono ?_
    rintro e w1 ⟨rfl, hb1⟩
    have HB1 := hide hb1
    have B1 := hide (BB.out.kept HB1.out)
    clear hb1 CG d0 d1
    have d0 := B1.out.cell (j := 0) rfl
    have d1 := B1.out.cell (j := 1) rfl
    cases bd with
    | true =>
      have hf := B1.out.frozen 1
      have F := hide (FN.out w1 _ HB1.out (B1.out.set 1 (.bool true)) (But.setCell D w1 1 (.bool true)))
      go_wp2_with fail
      go_ret
      rw [HA.out.1, HA.out.2]
      exact ⟨rfl, F.out⟩
    | false =>
      have hf := B1.out.frozen 1
      have F := hide (FN.out w1 _ HB1.out (B1.out.set 1 (.bool true)) (But.setCell D w1 1 (.bool true)))
      go_wp2_with fail
      go_ret
      rw [HA.out.1, HA.out.2]
      exact ⟨rfl, F.out⟩
  · obtain ⟨hk1, hk9, hkl, hn8, -⟩ := gn_ok hg
    rw [hg] at CG
    by_cases hnm : n ≤ m
    · have q1 : decide ((m : Int) < (n : Int)) = false := by simp; omega
      have hwn : IntKind.i64.wrap (n : Int) = (n : Int) := wr64 (by omega) (by omega)
      clear h
      cases s with
      | none =>
        obtain rfl : bd = true := Hbd.out.symm
        have HA : Hid (aft (pN m) none = none ∧ got (pN m) 0 none = 0) := (show _ ∧ _ from ⟨rfl, rfl⟩)
        clear hb hrd hs
        go_enter Try.func19, Try.ntmps19
        go_wp2_with fail
        refine CG.out.mono ?_
        rintro e w1 ⟨rfl, hb1⟩
        have HB1 := hide hb1
        have B1 := hide (BB.out.kept HB1.out)
        clear hb1 CG d0 d1
        have d0 := B1.out.cell (j := 0) rfl
        have d1 := B1.out.cell (j := 1) rfl
        have hf := B1.out.frozen 1
        have F := hide (FN.out w1 _ HB1.out (B1.out.set 1 (.bool true)) (But.setCell D w1 1 (.bool true)))
        go_wp2_with fail
        go_ret
        rw [HA.out.1, HA.out.2]
        exact ⟨rfl, F.out⟩
      | some l0 =>
        obtain rfl := hs l0 rfl
        obtain rfl : bd = false := Hbd.out.symm
        obtain ⟨a', hsl, hrs⟩ := slice_B a n0 cap k (by have := Hn0.out; omega) hcap
        have HRS := hide (hrs w0 l (by rw [← Hn0.out]; exact hrd))
        have HA : Hid (aft (pN m) (some l) = some (l.drop k) ∧ got (pN m) 0 (some l) = n) := (show _ ∧ _ from ⟨aft_some (show pN m l = some (n, l.drop k) by unfold pN; rw [hg]; simp [hnm]), got_some (show pN m l = some (n, l.drop k) by unfold pN; rw [hg]; simp [hnm])⟩)
        have FO : Hid (∀ w1 w2, Below w.heap.size w w1 → Blk w2 D 52 [.slice a' (n0 - k) (cap - k), .bool false] → But D w1 w2 → TkAt w0 w2 D (some (l.drop k)) ∧ Chg (fun k => k = D) w w2) := (show ∀ w1 w2, _ from fun w1 w2 h1 h2 h3 => by
          have hC : Chg (fun k => k = D) w w2 := (Chg.of_below h1).trans (Chg.of_but h3 rfl)
          refine ⟨⟨H.out.base.trans (hC.below H.out.base.size fun k hk e => by have := H.out.lo; omega), H.out.lo, _, l.drop k, h2, HRS.out, by rw [List.length_drop]; omega, fun z e => Option.some.inj e⟩, hC⟩)
        clear hb hrd hs hrs
        go_enter Try.func19, Try.ntmps19
        go_wp2_with fail
        refine CG.out.mono ?_
        rintro e w1 ⟨rfl, hb1⟩
        have HB1 := hide hb1
        have B1 := hide (BB.out.kept HB1.out)
        clear hb1 CG d0 d1
        have d0 := B1.out.cell (j := 0) rfl
        have d1 := B1.out.cell (j := 1) rfl
        have hf := B1.out.frozen 0
        have F := hide (FO.out w1 _ HB1.out (B1.out.set 0 (.slice a' (n0 - k) (cap - k))) (But.setCell D w1 0 _))
        go_wp2_with fail
        go_ret
        rw [HA.out.1, HA.out.2]
        exact ⟨rfl, F.out⟩
    · have q1 : decide ((m : Int) < (n : Int)) = true := by simp; omega
      have HA : Hid (aft (pN m) s = none ∧ got (pN m) 0 s = 0) := (show _ ∧ _ from by
        cases s with
        | none => exact ⟨rfl, rfl⟩
        | some z =>
          obtain rfl := hs z rfl
          have : pN m l = none := by unfold pN; rw [hg]; simp [hnm]
          exact ⟨aft_no this, got_no this⟩)
      clear h hb hrd hs
      go_enter Try.func19, Try.ntmps19
      go_wp2_with fail
      refine CG.out.mono ?_
      rintro e w1 ⟨rfl, hb1⟩
      have HB1 := hide hb1
      have B1 := hide (BB.out.kept HB1.out)
      clear hb1 CG d0 d1
      have d0 := B1.out.cell (j := 0) rfl
      have d1 := B1.out.cell (j := 1) rfl
      cases bd with
      | true =>
        have hf := B1.out.frozen 1
        have F := hide (FN.out w1 _ HB1.out (B1.out.set 1 (.bool true)) (But.setCell D w1 1 (.bool true)))
        go_wp2_with fail
        go_ret
        rw [HA.out.1, HA.out.2]
        exact ⟨rfl, F.out⟩
      | false =>
        have hf := B1.out.frozen 1
        have F := hide (FN.out w1 _ HB1.out (B1.out.set 1 (.bool true)) (But.setCell D w1 1 (.bool true)))
        go_wp2_with fail
        go_ret
        rw [HA.out.1, HA.out.2]
        exact ⟨rfl, F.out⟩
#print axioms knum_any
set_option maxHeartbeats 2000000 in
set_option maxRecDepth 100000 in
theorem kflag_any {w0 w : World} {D : Nat} {s : Option (List UInt8)} (h : TkAt w0 w D s) :
    Calls Try.prog 20 #[PT D] w fun e w' => e = .returned (.bool (got pF false s)) ∧ TkAt w0 w' D (aft pF s) ∧ Chg (fun k => k = D) w w' := by
  obtain ⟨v, l, hb, hrd, hl, hs⟩ := h.b
  have H := hide h
  have BB := hide hb
  have HRW := hide (hrd.kept h.base)
  obtain ⟨a, cap, rfl⟩ := hrd.slice
  obtain ⟨n0, Hn0⟩ : ∃ z, Hid (l.length = z) := ⟨_, rfl⟩
  have hcap : n0 ≤ cap := by
    obtain ⟨_, _, e, g1, _⟩ := hrd
    simp only [Value.slice.injEq] at e
    have := Hn0.out
    omega
  have CG := hide (refGetFlag_any _ l w HRW.out)
  rw [Hn0.out] at CG BB
  obtain ⟨bd, Hbd⟩ : ∃ z, Hid ((!s.isSome) = z) := ⟨_, rfl⟩
  rw [Hbd.out] at BB
  have FN : Hid (∀ w1 w2, Below w.heap.size w w1 → Blk w2 D 52 [.slice a n0 cap, .bool true] → But D w1 w2 → TkAt w0 w2 D none ∧ Chg (fun k => k = D) w w2) := (show ∀ w1 w2, _ from fun w1 w2 h1 h2 h3 => by
    have hC : Chg (fun k => k = D) w w2 := (Chg.of_below h1).trans (Chg.of_but h3 rfl)
    refine ⟨⟨h.base.trans (hC.below h.base.size fun k hk e => by have := h.lo; omega), h.lo, _, l, h2, by rw [← Hn0.out]; exact hrd, hl, fun z e => by cases e⟩, hC⟩)
  have d0 := BB.out.cell (j := 0) rfl
  have d1 := BB.out.cell (j := 1) rfl
  rcases gf_cases l with hg | ⟨n, hg, hl1⟩
  · have HA : Hid (aft pF s = none ∧ got pF false s = false) := (show _ ∧ _ from by
      cases s with
      | none => exact ⟨rfl, rfl⟩
      | some z =>
        obtain rfl := hs z rfl
        have : pF l = none := by unfold pF; rw [hg]; simp
        exact ⟨aft_no this, got_no this⟩)
    rw [hg] at CG
    clear h hb hrd hs
    go_enter Try.func20, Try.ntmps20
    go_wp2_with fail
    refine CG.out.mono ?_
    rintro e w1 ⟨rfl, hw1⟩
    have HB1 : Hid (Below w.heap.size w w1) := (show Below _ _ _ by rw [hw1]; exact Below.refl _ _)
    have B1 := hide (BB.out.kept HB1.out)
    clear hw1 CG d0 d1
    have d0 := B1.out.cell (j := 0) rfl
    have d1 := B1.out.cell (j := 1) rfl
    cases bd with
    | true =>
      have hf := B1.out.frozen 1
      have F := hide (FN.out w1 _ HB1.out (B1.out.set 1 (.bool true)) (But.setCell D w1 1 (.bool true)))
      go_wp2_with fail
      go_ret
      rw [HA.out.1, HA.out.2]
      exact ⟨rfl, F.out⟩
    | false =>
      have hf := B1.out.frozen 1
      have F := hide (FN.out w1 _ HB1.out (B1.out.set 1 (.bool true)) (But.setCell D w1 1 (.bool true)))
      go_wp2_with fail
      go_ret
      rw [HA.out.1, HA.out.2]
      exact ⟨rfl, F.out⟩
  · obtain ⟨k, hk⟩ : ∃ k : Nat, 1 = k := ⟨1, rfl⟩
    rw [hk] at hg hl1
    rw [hg] at CG
    clear hk
    clear h
    cases s with
    | none =>
      obtain rfl : bd = true := Hbd.out.symm
      have HA : Hid (aft pF none = none ∧ got pF false none = false) := (show _ ∧ _ from ⟨rfl, rfl⟩)
      clear hb hrd hs
      go_enter Try.func20, Try.ntmps20
      go_wp2_with fail
      refine CG.out.mono ?_
      rintro e w1 ⟨rfl, hw1⟩
      have HB1 : Hid (Below w.heap.size w w1) := (show Below _ _ _ by rw [hw1]; exact Below.refl _ _)
      have B1 := hide (BB.out.kept HB1.out)
      clear hw1 CG d0 d1
      have d0 := B1.out.cell (j := 0) rfl
      have d1 := B1.out.cell (j := 1) rfl
      have hf := B1.out.frozen 1
      have F := hide (FN.out w1 _ HB1.out (B1.out.set 1 (.bool true)) (But.setCell D w1 1 (.bool true)))
      go_wp2_with fail
      go_ret
      rw [HA.out.1, HA.out.2]
      exact ⟨rfl, F.out⟩
    | some l0 =>
      obtain rfl := hs l0 rfl
      obtain rfl : bd = false := Hbd.out.symm
      obtain ⟨a', hsl, hrs⟩ := slice_B a n0 cap k (by have := Hn0.out; omega) hcap
      have HRS := hide (hrs w0 l (by rw [← Hn0.out]; exact hrd))
      have HA : Hid (aft pF (some l) = some (l.drop k) ∧ got pF false (some l) = n) := (show _ ∧ _ from ⟨aft_some (show pF l = some (n, l.drop k) by unfold pF; rw [hg]; simp), got_some (show pF l = some (n, l.drop k) by unfold pF; rw [hg]; simp)⟩)
      have FO : Hid (∀ w1 w2, Below w.heap.size w w1 → Blk w2 D 52 [.slice a' (n0 - k) (cap - k), .bool false] → But D w1 w2 → TkAt w0 w2 D (some (l.drop k)) ∧ Chg (fun k => k = D) w w2) := (show ∀ w1 w2, _ from fun w1 w2 h1 h2 h3 => by
        have hC : Chg (fun k => k = D) w w2 := (Chg.of_below h1).trans (Chg.of_but h3 rfl)
        refine ⟨⟨H.out.base.trans (hC.below H.out.base.size fun k hk e => by have := H.out.lo; omega), H.out.lo, _, l.drop k, h2, HRS.out, by rw [List.length_drop]; omega, fun z e => Option.some.inj e⟩, hC⟩)
      clear hb hrd hs hrs
      go_enter Try.func20, Try.ntmps20
      go_wp2_with fail
      refine CG.out.mono ?_
      rintro e w1 ⟨rfl, hw1⟩
      have HB1 : Hid (Below w.heap.size w w1) := (show Below _ _ _ by rw [hw1]; exact Below.refl _ _)
      have B1 := hide (BB.out.kept HB1.out)
      clear hw1 CG d0 d1
      have d0 := B1.out.cell (j := 0) rfl
      have d1 := B1.out.cell (j := 1) rfl
      have hf := B1.out.frozen 0
      have F := hide (FO.out w1 _ HB1.out (B1.out.set 0 (.slice a' (n0 - k) (cap - k))) (But.setCell D w1 0 _))
      go_wp2_with fail
      go_ret
      rw [HA.out.1, HA.out.2]
      exact ⟨rfl, F.out⟩
#print axioms kflag_any
set_option maxHeartbeats 2000000 in
set_option maxRecDepth 100000 in
theorem kstr_any {w0 w : World} {D : Nat} {s : Option (List UInt8)} (h : TkAt w0 w D s) (m : Nat) (hm : (Lit.int .i64 (m : Int)).wf = true) :
    Calls Try.prog 21 #[PT D, .int .i64 (m : Int)] w fun e w' => e = .returned (.string (got (pS m) em s)) ∧ TkAt w0 w' D (aft (pS m) s) ∧ Chg (fun k => k = D) w w' := by
  obtain ⟨v, l, hb, hrd, hl, hs⟩ := h.b
  have H := hide h
  have BB := hide hb
  have HRW := hide (hrd.kept h.base)
  obtain ⟨a, cap, rfl⟩ := hrd.slice
  obtain ⟨n0, Hn0⟩ : ∃ z, Hid (l.length = z) := ⟨_, rfl⟩
  have hcap : n0 ≤ cap := by
    obtain ⟨_, _, e, g1, _⟩ := hrd
    simp only [Value.slice.injEq] at e
    have := Hn0.out
    omega
  have CG := hide (refGetStr_any _ l (m : Int) w HRW.out (by omega) hm)
  rw [Hn0.out] at CG BB
  obtain ⟨bd, Hbd⟩ : ∃ z, Hid ((!s.isSome) = z) := ⟨_, rfl⟩
  rw [Hbd.out] at BB
  have FN : Hid (∀ w1 w2, Below w.heap.size w w1 → Blk w2 D 52 [.slice a n0 cap, .bool true] → But D w1 w2 → TkAt w0 w2 D none ∧ Chg (fun k => k = D) w w2) := (show ∀ w1 w2, _ from fun w1 w2 h1 h2 h3 => by
    have hC : Chg (fun k => k = D) w w2 := (Chg.of_below h1).trans (Chg.of_but h3 rfl)
    refine ⟨⟨h.base.trans (hC.below h.base.size fun k hk e => by have := h.lo; omega), h.lo, _, l, h2, by rw [← Hn0.out]; exact hrd, hl, fun z e => by cases e⟩, hC⟩)
  have d0 := BB.out.cell (j := 0) rfl
  have d1 := BB.out.cell (j := 1) rfl
  rw [Int.toNat_natCast] at CG
  rcases gs_cases l m with hg | ⟨t, k, hg, hkl, hk1, ht, htm⟩
  · have HA : Hid (aft (pS m) s = none ∧ got (pS m) em s = em) := (show _ ∧ _ from by
      cases s with
      | none => exact ⟨rfl, rfl⟩
      | some z =>
        obtain rfl := hs z rfl
        have : pS m l = none := by unfold pS; rw [hg]; simp
        exact ⟨aft_no this, got_no this⟩)
    rw [hg] at CG
    clear h hb hrd hs
    go_enter Try.func21, Try.ntmps21
    go_wp2_with fail
    refine CG.out.mono ?_
    rintro e w1 ⟨rfl, hb1⟩
    have HB1 := hide hb1
    have B1 := hide (BB.out.kept HB1.out)
    clear hb1 CG d0 d1
    have d0 := B1.out.cell (j := 0) rfl
    have d1 := B1.out.cell (j := 1) rfl
    cases bd with
    | true =>
      have hf := B1.out.frozen 1
      have F := hide (FN.out w1 _ HB1.out (B1.out.set 1 (.bool true)) (But.setCell D w1 1 (.bool true)))
      go_wp2_with fail
      go_ret
      rw [HA.out.1, HA.out.2]
      exact ⟨rfl, F.out⟩
    | false =>
      have hf := B1.out.frozen 1
      have F := hide (FN.out w1 _ HB1.out (B1.out.set 1 (.bool true)) (But.setCell D w1 1 (.bool true)))
      go_wp2_with fail
      go_ret
      rw [HA.out.1, HA.out.2]
      exact ⟨rfl, F.out⟩
  · rw [hg] at CG
    clear h
    cases s with
    | none =>
      obtain rfl : bd = true := Hbd.out.symm
      have HA : Hid (aft (pS m) none = none ∧ got (pS m) em none = em) := (show _ ∧ _ from ⟨rfl, rfl⟩)
      clear hb hrd hs
      go_enter Try.func21, Try.ntmps21
      go_wp2_with fail
      refine CG.out.mono ?_
      rintro e w1 ⟨rfl, hb1⟩
      have HB1 := hide hb1
      have B1 := hide (BB.out.kept HB1.out)
      clear hb1 CG d0 d1
      have d0 := B1.out.cell (j := 0) rfl
      have d1 := B1.out.cell (j := 1) rfl
      have hf := B1.out.frozen 1
      have F := hide (FN.out w1 _ HB1.out (B1.out.set 1 (.bool true)) (But.setCell D w1 1 (.bool true)))
      go_wp2_with fail
      go_ret
      rw [HA.out.1, HA.out.2]
      exact ⟨rfl, F.out⟩
    | some l0 =>
      obtain rfl := hs l0 rfl
      obtain rfl : bd = false := Hbd.out.symm
      obtain ⟨a', hsl, hrs⟩ := slice_B a n0 cap k (by have := Hn0.out; omega) hcap
      have HRS := hide (hrs w0 l (by rw [← Hn0.out]; exact hrd))
      have HA : Hid (aft (pS m) (some l) = some (l.drop k) ∧ got (pS m) em (some l) = ⟨t.toArray⟩) := (show _ ∧ _ from ⟨aft_some (show pS m l = some (⟨t.toArray⟩, l.drop k) by unfold pS; rw [hg]; simp), got_some (show pS m l = some (⟨t.toArray⟩, l.drop k) by unfold pS; rw [hg]; simp)⟩)
      have FO : Hid (∀ w1 w2, Below w.heap.size w w1 → Blk w2 D 52 [.slice a' (n0 - k) (cap - k), .bool false] → But D w1 w2 → TkAt w0 w2 D (some (l.drop k)) ∧ Chg (fun k => k = D) w w2) := (show ∀ w1 w2, _ from fun w1 w2 h1 h2 h3 => by
        have hC : Chg (fun k => k = D) w w2 := (Chg.of_below h1).trans (Chg.of_but h3 rfl)
        refine ⟨⟨H.out.base.trans (hC.below H.out.base.size fun k hk e => by have := H.out.lo; omega), H.out.lo, _, l.drop k, h2, HRS.out, by rw [List.length_drop]; omega, fun z e => Option.some.inj e⟩, hC⟩)
      clear hb hrd hs hrs
      go_enter Try.func21, Try.ntmps21
      go_wp2_with fail
      refine CG.out.mono ?_
      rintro e w1 ⟨rfl, hb1⟩
      have HB1 := hide hb1
      have B1 := hide (BB.out.kept HB1.out)
      clear hb1 CG d0 d1
      have d0 := B1.out.cell (j := 0) rfl
      have d1 := B1.out.cell (j := 1) rfl
      have hf := B1.out.frozen 0
      have F := hide (FO.out w1 _ HB1.out (B1.out.set 0 (.slice a' (n0 - k) (cap - k))) (But.setCell D w1 0 _))
      go_wp2_with fail
      go_ret
      rw [HA.out.1, HA.out.2]
      exact ⟨rfl, F.out⟩
#print axioms kstr_any
end Go.Proofs.Ytmicmbjbclkbjaa

/-
  The document's Read: its parts, plain; what lies in memory while it reads.
-/
namespace Go.Proofs.Ytmicmbjbclkbjaa
open Go.RowKit
theorem pD_parts {s s1 s2 s3 s4 s5 : Option (List UInt8)} {a b : Nat} {c : Bool} (Ha : got (pN 8) 0 s = a) (Hs1 : aft (pN 8) s = s1) (Hb : got (pN 1099511627776) 0 s1 = b) (Hs2 : aft (pN 1099511627776) s1 = s2) (Hc : got pF false s2 = c) (Hs3 : aft pF s2 = s3) (Hs4 : aft (pL 64 pR) s3 = s4) (Hs5 : aft (pL 64 pW) s4 = s5) :
    aft pD s = s5 ∧ ∀ d z, s.bind pD = some (d, z) → ∃ rs ws z1 z2, s3.bind (pL 64 pR) = some (rs, z1) ∧ s4.bind (pL 64 pW) = some (ws, z2) ∧ d = ⟨a, b, c, rs, ws⟩ := by
  have hP : ∀ l, pD l = (pN 8 l).bind fun q => pD1 q.1 q.2 := fun l => rfl
  have hP1 : ∀ l, pD1 a l = (pN 1099511627776 l).bind fun q => pD2 a q.1 q.2 := fun l => rfl
  have hP2 : ∀ l, pD2 a b l = (pF l).bind fun q => pD3 a b q.1 q.2 := fun l => rfl
  have hP3 : ∀ l, pD3 a b c l = (pL 64 pR l).bind fun q => pD4 a b c q.1 q.2 := fun l => rfl
  refine ⟨?_, fun d z hy => ?_⟩
  · rw [aft_bind (p := pN 8) (f := pD1) hP 0 s, Ha, Hs1, aft_bind (p := pN 1099511627776) (f := pD2 a) hP1 0 s1, Hb, Hs2, aft_bind (p := pF) (f := pD3 a b) hP2 false s2, Hc, Hs3, aft_bind (p := pL 64 pR) (f := pD4 a b c) hP3 [] s3, Hs4, aft_map (P := pD4 a b c _) (g := fun t => (⟨a, b, c, got (pL 64 pR) [] s3, t⟩ : Pd)) (p := pL 64 pW) (fun _ => rfl), Hs5]
  · have h1 := val_bind (p := pN 8) (f := pD1) hP 0 hy
    rw [Ha, Hs1] at h1
    have h2 := val_bind (p := pN 1099511627776) (f := pD2 a) hP1 0 h1
    rw [Hb, Hs2] at h2
    have h3 := val_bind (p := pF) (f := pD3 a b) hP2 false h2
    rw [Hc, Hs3] at h3
    obtain ⟨rs, z1, h4, h5⟩ := bind_ex (p := pL 64 pR) (f := pD4 a b c) hP3 h3
    have h6 := (val_got (d := []) h4).2
    rw [Hs4] at h6
    rw [← h6] at h5
    cases s4 with
    | none => cases h5
    | some l4 =>
      simp only [Option.bind_some, pD4, Option.map_eq_some_iff, Prod.mk.injEq] at h5
      obtain ⟨t, g1, g2, g3⟩ := h5
      exact ⟨rs, t.1, z1, t.2, h4, g1, g2.symm⟩
theorem pR_parts {s s1 s2 : Option (List UInt8)} {d : Bool} {k : ByteArray} (Hd : got pF false s = d) (Hs1 : aft pF s = s1) (Hk : got (pS 64) em s1 = k) (Hs2 : aft (pS 64) s1 = s2) :
    aft pR s = aft (pL 200 pP) (aft (pT d 64) s2) ∧ ∀ y z, s.bind pR = some (y, z) → ∃ ps, (aft (pT d 64) s2).bind (pL 200 pP) = some (ps, z) ∧ y = (d, k, got (pT d 64) em s2, ps) := by
  have hP : ∀ l, pR l = (pF l).bind fun q => pR1 q.1 q.2 := fun l => rfl
  have hP1 : ∀ l, pR1 d l = (pS 64 l).bind fun q => pR2 d q.1 q.2 := fun l => rfl
  have hP2 : ∀ l, pR2 d k l = (pT d 64 l).bind fun q => pR3 d k q.1 q.2 := fun l => rfl
  refine ⟨?_, fun y z hy => ?_⟩
  · rw [aft_bind (p := pF) (f := pR1) hP false s, Hd, Hs1, aft_bind (p := pS 64) (f := pR2 d) hP1 em s1, Hk, Hs2, aft_bind (p := pT d 64) (f := pR3 d k) hP2 em s2]
    exact aft_map (P := pR3 d k _) (g := fun t => ((d, k, got (pT d 64) em s2, t) : Rp)) (p := pL 200 pP) (fun _ => rfl) _
  · have h1 := val_bind (p := pF) (f := pR1) hP false hy
    rw [Hd, Hs1] at h1
    have h2 := val_bind (p := pS 64) (f := pR2 d) hP1 em h1
    rw [Hk, Hs2] at h2
    have h3 := val_bind (p := pT d 64) (f := pR3 d k) hP2 em h2
    obtain ⟨g1, g2⟩ := val_map (P := pR3 d k _) (g := fun t => ((d, k, got (pT d 64) em s2, t) : Rp)) (p := pL 200 pP) (fun _ => rfl) [] h3
    refine ⟨_, ?_, g1⟩
    cases hq : aft (pT d 64) s2 with
    | none => rw [hq] at g2; cases g2
    | some l9 =>
      rw [hq] at g2
      cases hv : pL 200 pP l9 with
      | none => rw [aft_no hv] at g2; cases g2
      | some q9 =>
        obtain ⟨x9, z9⟩ := q9
        rw [aft_some hv] at g2
        rw [got_some hv, ← Option.some.inj g2]
        exact hv
theorem pP_parts {s s1 s2 : Option (List UInt8)} {k v : ByteArray} (Hk : got (pS 64) em s = k) (Hs1 : aft (pS 64) s = s1) (Hv : got (pS 256) em s1 = v) (Hs2 : aft (pS 256) s1 = s2) :
    aft pP s = s2 ∧ ∀ y z, s.bind pP = some (y, z) → (k, v, false) = y := by
  have hP : ∀ l, pP l = (pS 64 l).bind fun q => pP2 q.1 q.2 := fun l => rfl
  refine ⟨?_, fun y z hy => ?_⟩
  · rw [aft_bind (p := pS 64) (f := pP2) hP em s, Hk, Hs1, aft_map (P := pP2 k) (g := fun t => ((k, t, false) : Pr)) (p := pS 256) (fun l => rfl), Hs2]
  · have h1 := val_bind (p := pS 64) (f := pP2) hP em hy
    rw [Hk, Hs1] at h1
    have h2 := (val_map (P := pP2 k) (g := fun t => ((k, t, false) : Pr)) (p := pS 256) (fun l => rfl) em h1).1
    rw [Hv] at h2
    exact h2.symm
theorem pW_parts {s s1 s2 : Option (List UInt8)} {d : Bool} {k : ByteArray} (Hk : got (pS 64) em s = k) (Hs1 : aft (pS 64) s = s1) (Hd : got pF false s1 = d) (Hs2 : aft pF s1 = s2) :
    aft pW s = aft (pT (!d) 256) s2 ∧ ∀ y z, s.bind pW = some (y, z) → (k, got (pT (!d) 256) em s2, d) = y := by
  have hP : ∀ l, pW l = (pS 64 l).bind fun q => pW1 q.1 q.2 := fun l => rfl
  have hP2 : ∀ l, pW1 k l = (pF l).bind fun q => pW2 k q.1 q.2 := fun l => rfl
  refine ⟨?_, fun y z hy => ?_⟩
  · rw [aft_bind (p := pS 64) (f := pW1) hP em s, Hk, Hs1, aft_bind (p := pF) (f := pW2 k) hP2 false s1, Hd, Hs2, aft_map (P := pW2 k d) (g := fun t => ((k, t, d) : Pr)) (p := pT (!d) 256) (fun l => rfl)]
  · have h1 := val_bind (p := pS 64) (f := pW1) hP em hy
    rw [Hk, Hs1] at h1
    have h2 := val_bind (p := pF) (f := pW2 k) hP2 false h1
    rw [Hd, Hs2] at h2
    exact (val_map (P := pW2 k d) (g := fun t => ((k, t, d) : Pr)) (p := pT (!d) 256) (fun l => rfl) em h2).1.symm
/-- How far a list is got: j more; L are there. -/
structure Lg {α : Type} (p : Pa α) (m : Nat) (s0 : Option (List UInt8)) (j : Nat) (si : Option (List UInt8)) (L : List α) : Prop where
  a : aft (pK p j) si = aft (pL m p) s0
  v : ∀ ys z, s0.bind (pL m p) = some (ys, z) → ∃ xs, ys = L ++ xs ∧ si.bind (pK p j) = some (xs, z)
theorem Lg.start {α : Type} (p : Pa α) (m : Nat) (s0 : Option (List UInt8)) : Lg p m s0 (got (pN m) 0 s0) (aft (pN m) s0) [] :=
  ⟨(pL_aft m p s0).symm, fun ys _ hy => ⟨ys, rfl, pL_val hy⟩⟩
theorem Lg.next {α : Type} {p : Pa α} {m j : Nat} {s0 si : Option (List UInt8)} {L : List α} {x : α} (h : Lg p m s0 (j + 1) si L) (hx : ∀ y z, si.bind p = some (y, z) → x = y) : Lg p m s0 j (aft p si) (L ++ [x]) :=
  ⟨by rw [← h.a, pK_aft], fun ys z hy => by
    obtain ⟨xs, h1, h2⟩ := h.v ys z hy
    obtain ⟨x0, xs0, z1, h3, h4, h5⟩ := pK_val h2
    refine ⟨xs0, ?_, h5⟩
    rw [h1, h3, hx x0 z1 h4]
    simp⟩
theorem Lg.done {α : Type} {p : Pa α} {m : Nat} {s0 si : Option (List UInt8)} {L : List α} (h : Lg p m s0 0 si L) : si = aft (pL m p) s0 ∧ ∀ ys z, s0.bind (pL m p) = some (ys, z) → L = ys :=
  ⟨by rw [← h.a, pK_zero], fun ys z hy => by
    obtain ⟨xs, h1, h2⟩ := h.v ys z hy
    rw [h1, pK_nil h2, List.append_nil]⟩
theorem Lg.lost {α : Type} {p : Pa α} {m j : Nat} {s0 : Option (List UInt8)} {L : List α} (h : Lg p m s0 j none L) : (none : Option (List UInt8)) = aft (pL m p) s0 ∧ ∀ ys z, s0.bind (pL m p) = some (ys, z) → L = ys :=
  ⟨by rw [← h.a]; rfl, fun ys z hy => by
    obtain ⟨xs, h1, h2⟩ := h.v ys z hy
    cases h2⟩
/-- What lies in memory while Read reads: the taker, the room of the result, the record so far. -/
structure RdS (w0 wr : World) (N D R : Nat) (a b : Nat) (c : Bool) (s : Option (List UInt8)) (vR vW : Value) (L : List Rz) (M : List Pr) : Prop where
  tk : TkAt w0 wr D s
  rn : Blk wr N 27 (RC zr)
  rr : Blk wr R 27 [.int .i64 (a : Int), .int .i64 (b : Int), .bool c, vR, vW]
  rs : OwnR9 wr N vR L
  ws : OwnG PE wr N 41 vW M
  hN : w0.heap.size = N
  ne : N < R ∧ N < D
  ap : ∀ y ∈ L, ∀ k, (xv y).ownBlock = some k → ¬ vW.ownBlock = some k
/-- While the record is written to. -/
structure RdT (w0 wr : World) (N D R : Nat) (s : Option (List UInt8)) (vR : Value) (L : List Rz) : Prop where
  tk : TkAt w0 wr D s
  rn : Blk wr N 27 (RC zr)
  rs : OwnR9 wr N vR L
  hN : w0.heap.size = N
  ne : N < R ∧ N < D
/-- Its blocks are below W. -/
def RdLow (W N D R : Nat) (vR vW : Value) (L : List Rz) : Prop := D < W ∧ R < W ∧ N < W ∧ (∀ k, vR.ownBlock = some k → k < W) ∧ (∀ y ∈ L, ∀ k, (xv y).ownBlock = some k → k < W) ∧ (∀ k, vW.ownBlock = some k → k < W)
section
variable {w0 wr w' : World} {N D R a b : Nat} {c : Bool} {s : Option (List UInt8)} {vR vW : Value} {L : List Rz} {M : List Pr}
theorem RdS.low (h : RdS w0 wr N D R a b c s vR vW L M) : RdLow wr.heap.size N D R vR vW L :=
  ⟨h.tk.lt, h.rr.lt, h.rn.lt, fun _ hk => (h.rs.row.block hk).2.1, fun y hy _ hk => ((h.rs.ps y hy).block hk).2.1, fun _ hk => (h.ws.block hk).2.1⟩
theorem RdS.chg (h : RdS w0 wr N D R a b c s vR vW L M) {F : Nat → Prop} (hc : Chg F wr w') (hD : ¬ F D) (hR : ¬ F R) (hN : ∀ k, k ≤ N → ¬ F k) (h1 : ∀ k, vR.ownBlock = some k → ¬ F k) (h2 : ∀ y ∈ L, ∀ k, (xv y).ownBlock = some k → ¬ F k) (h3 : ∀ k, vW.ownBlock = some k → ¬ F k) :
    RdS w0 w' N D R a b c s vR vW L M :=
  ⟨h.tk.chg hc hD fun k hk => hN k (by have := h.hN; omega), h.rn.chg hc (hN N (Nat.le_refl _)), h.rr.chg hc hR, ⟨h.rs.row.chg hc h1, fun y hy => (h.rs.ps y hy).chg hc (h2 y hy)⟩, h.ws.chg hc h3, h.hN, h.ne, h.ap⟩
theorem chg_below {W : Nat} (hb : Below W wr w') : Chg (fun k => W ≤ k) wr w' := ⟨hb.os, hb.tape, hb.output, hb.size, fun k _ hn => hb.block k (by omega)⟩
theorem RdS.below (h : RdS w0 wr N D R a b c s vR vW L M) {W : Nat} (hl : RdLow W N D R vR vW L) (hb : Below W wr w') : RdS w0 w' N D R a b c s vR vW L M := by
  obtain ⟨g1, g2, g3, g4, g5, g6⟩ := hl
  exact h.chg (chg_below hb) (by omega) (by omega) (fun k hk => by omega) (fun k hk => by have := g4 k hk; omega) (fun y hy k hk => by have := g5 y hy k hk; omega) (fun k hk => by have := g6 k hk; omega)
theorem RdS.took (h : RdS w0 wr N D R a b c s vR vW L M) {s' : Option (List UInt8)} (ht : TkAt w0 w' D s') (hc : Chg (fun k => k = D) wr w') : RdS w0 w' N D R a b c s' vR vW L M := by
  obtain ⟨v, l, hb, _⟩ := h.tk.b
  have hrow : ∀ k, vR.ownBlock = some k → ¬ k = D := fun k hk e => by
    obtain ⟨_, _, cu, h5⟩ := h.rs.row.block hk
    exact cells_ne h5 hb (by decide) e
  have hps : ∀ y ∈ L, ∀ k, (xv y).ownBlock = some k → ¬ k = D := fun y hy k hk e => by
    obtain ⟨_, _, cu, h5⟩ := (h.rs.ps y hy).block hk
    exact cells_ne h5 hb (by decide) e
  have hws : ∀ k, vW.ownBlock = some k → ¬ k = D := fun k hk e => by
    obtain ⟨_, _, cu, h5⟩ := h.ws.block hk
    exact cells_ne h5 hb (by decide) e
  exact ⟨ht, h.rn.chg hc (h.tk.neT h.rn (by decide)), h.rr.chg hc (h.tk.neT h.rr (by decide)), ⟨h.rs.row.chg hc hrow, fun y hy => (h.rs.ps y hy).chg hc (hps y hy)⟩, h.ws.chg hc hws, h.hN, h.ne, h.ap⟩
theorem RdS.neW (h : RdS w0 wr N D R a b c s vR vW L M) {B : Nat} {T : TypeId} {cs : List Value} (hB : Blk wr B T cs) (hT : 41 ≠ T) : ¬ vW.ownBlock = some B := fun e => by
  obtain ⟨_, _, cu, h5⟩ := h.ws.block e
  exact absurd rfl (cells_ne h5 hB hT)
theorem RdS.neR (h : RdS w0 wr N D R a b c s vR vW L M) {B : Nat} {T : TypeId} {cs : List Value} (hB : Blk wr B T cs) (hT : 39 ≠ T) : ¬ vR.ownBlock = some B := fun e => by
  obtain ⟨_, _, cu, h5⟩ := h.rs.row.block e
  exact absurd rfl (cells_ne h5 hB hT)
/-- The writes' row grows. -/
theorem RdS.wrow (h : RdS w0 wr N D R a b c s vR vW L M) (hc : Chg (fun k => vW.ownBlock = some k) wr w') : RdT w0 w' N D R s vR L ∧ Blk w' R 27 [.int .i64 (a : Int), .int .i64 (b : Int), .bool c, vR, vW] := by
  obtain ⟨v, l, hb, hl⟩ := h.tk.b
  refine ⟨⟨h.tk.chg hc (h.neW hb (by decide)) (fun k hk e => by have := (h.ws.block e).1; have := h.hN; omega), h.rn.chg hc (h.neW h.rn (by decide)), ⟨h.rs.row.chg hc fun k hk e => ?_, fun y hy => (h.rs.ps y hy).chg hc (h.ap y hy)⟩, h.hN, h.ne⟩, h.rr.chg hc (h.neW h.rr (by decide))⟩
  obtain ⟨_, _, cu, h5⟩ := h.rs.row.block hk
  exact h.neW (show Blk wr k 39 cu.toList from h5) (by decide) e
/-- The reads' row grows. -/
theorem RdS.rrow (h : RdS w0 wr N D R a b c s vR vW L M) (hc : Chg (fun k => vR.ownBlock = some k) wr w') {v9 : Value} {x : Rz} (ho : OwnG XE w' N 39 v9 (L ++ [x])) (hx : OwnG PE wr N 41 (xv x) x.ps) : RdT w0 w' N D R s v9 (L ++ [x]) ∧ Blk w' R 27 [.int .i64 (a : Int), .int .i64 (b : Int), .bool c, vR, vW] := by
  obtain ⟨v, l, hb, hl⟩ := h.tk.b
  have hp : ∀ {u : Value} {ps : List Pr}, OwnG PE wr N 41 u ps → OwnG PE w' N 41 u ps := fun hu => hu.chg hc fun k hk e => by
    obtain ⟨_, _, cu, h5⟩ := hu.block hk
    exact h.neR (show Blk wr k 41 cu.toList from h5) (by decide) e
  refine ⟨⟨h.tk.chg hc (h.neR hb (by decide)) (fun k hk e => by have := (h.rs.row.block e).1; have := h.hN; omega), h.rn.chg hc (h.neR h.rn (by decide)), ⟨ho, fun y hy => ?_⟩, h.hN, h.ne⟩, h.rr.chg hc (h.neR h.rr (by decide))⟩
  rcases List.mem_append.1 hy with hy | hy
  · exact hp (h.rs.ps y hy)
  · rw [List.mem_singleton] at hy
    subst hy
    exact hp hx
theorem RdS.apN (h : RdS w0 wr N D R a b c s vR vW L M) {v' : Value} (hq : ∀ k, v'.ownBlock = some k → vW.ownBlock = some k ∨ k = wr.heap.size) : ∀ y ∈ L, ∀ k, (xv y).ownBlock = some k → ¬ v'.ownBlock = some k := fun y hy k hk e => by
  rcases hq k e with h1 | h1
  · exact h.ap y hy k hk h1
  · have := ((h.rs.ps y hy).block hk).2.1
    omega
/-- The record's cell is written. -/
theorem RdT.store {w15 : World} (h : RdT w0 w15 N D R s vR L) (hw : OwnG PE w15 N 41 vW M) (hap : ∀ y ∈ L, ∀ k, (xv y).ownBlock = some k → ¬ vW.ownBlock = some k) {cs : List Value} (hR : Blk w15 R 27 cs) (hc : Chg (fun k => k = R) w15 w') (hb : Blk w' R 27 [.int .i64 (a : Int), .int .i64 (b : Int), .bool c, vR, vW]) :
    RdS w0 w' N D R a b c s vR vW L M := by
  have hT : ∀ {α : Type} {E : Enc α} {T : TypeId} {u : Value} {Q : List α}, OwnG E w15 N T u Q → T ≠ 27 → OwnG E w' N T u Q := fun ho hT => ho.chg hc fun k hk e => by
    obtain ⟨_, _, cu, h5⟩ := ho.block hk
    exact cells_ne h5 hR hT e
  have hne := h.ne
  exact ⟨h.tk.chg hc (fun e => h.tk.neT hR (by decide) e.symm) (fun k hk e => by have := h.hN; omega), h.rn.chg hc (by omega), hb, ⟨hT h.rs.row (by decide), fun y hy => hT (h.rs.ps y hy) (by decide)⟩, hT hw (by decide), h.hN, h.ne, hap⟩
theorem RdS.wide (h : RdS w0 wr N D R a b c s vR vW L M) : Below w0.heap.size w0 wr := h.tk.base
end
/-- A read that is being got, in block X; its pairs. -/
structure XS (wr : World) (W X : Nat) (f : Bool) (k t : ByteArray) (v : Value) (ps : List Pr) : Prop where
  x : Blk wr X 39 [.bool f, .string k, .string t, v]
  row : OwnG PE wr W 41 v ps
  lt : W ≤ X
section
variable {w0 wr w' : World} {W X D : Nat} {f : Bool} {k t : ByteArray} {v : Value} {ps : List Pr}
theorem XS.kept (h : XS wr W X f k t v ps) (hb : Below wr.heap.size wr w') : XS w' W X f k t v ps := ⟨h.x.kept hb, h.row.kept hb, h.lt⟩
theorem XS.took (h : XS wr W X f k t v ps) {s : Option (List UInt8)} (ht : TkAt w0 wr D s) (hc : Chg (fun j => j = D) wr w') : XS w' W X f k t v ps := by
  obtain ⟨u, l, hb, _⟩ := ht.b
  exact ⟨h.x.chg hc (ht.neT h.x (by decide)), h.row.chg hc fun j hj e => by
    obtain ⟨_, _, cu, h5⟩ := h.row.block hj
    exact cells_ne h5 hb (by decide) e, h.lt⟩
end
theorem build_tk (p : Option Addr) (n c : Nat) : ∀ W : World, (Instr.build 52 #[(0, .slice p n c)]).run Try.prog W = .ok (.agg #[.slice p n c, .bool false]) W := fun W => by kernel_rfl
theorem build_rec3 (a b : Int) (c : Bool) : ∀ W : World, (Instr.build 27 #[(0, .int .i64 a), (1, .int .i64 b), (2, .bool c)]).run Try.prog W = .ok (.agg #[.int .i64 a, .int .i64 b, .bool c, .slice none 0 0, .slice none 0 0]) W := fun W => by kernel_rfl
#print axioms RdS.took
end Go.Proofs.Ytmicmbjbclkbjaa

/-
  The document's Read: what the call does.
-/
namespace Go.Proofs.Ytmicmbjbclkbjaa
open Go.RowKit
set_option linter.unusedSimpArgs false in
set_option maxHeartbeats 32000000 in
set_option maxRecDepth 100000 in
theorem kread_any {w : World} {v : Value} {l : List UInt8} (hr : Rd w v l) (hl : l.length ≤ 140737488355328) : Calls Try.prog 9 #[v] w fun e w' => RdPost l e w' ∧ Below w.heap.size w w' := by
  obtain ⟨a0, cap0, rfl⟩ := hr.slice
  obtain ⟨N, HN⟩ : ∃ N, Hid (w.heap.size = N) := ⟨_, rfl⟩
  obtain ⟨n0, Hn0⟩ : ∃ z, Hid (l.length = z) := ⟨_, rfl⟩
  obtain ⟨w1, hw1⟩ : ∃ y, y = w.alloc (.cells (RC zr).toArray 27 (0, 0)) := ⟨_, rfl⟩
  obtain ⟨b1, l1⟩ := newB HN hw1
  have HW1 := hide hw1
  have R0 := hide hr
  have HN1 : Hid (w1.heap.size = N + 1) := (show _ = _ by rw [hw1]; simp [HN.out])
  rw [Hn0.out] at R0 hl ⊢
  have hz := zeroR
  have hb := build_zr
  clear hr hw1
  by_cases hn : 8192 < n0
  · have q1 : decide ((8192 : Int) < (n0 : Int)) = true := by simp; omega
    have PZ : Hid (∀ W, RdPost l (.returned (.tuple #[.agg (RC zr).toArray, .int .i64 4])) W) := (show ∀ W, _ from fun W => ⟨zr, 4, rfl, zr_ok W, .inr ⟨rfl, rfl, fun r2 _ _ => by rw [Hn0.out]; exact hn⟩⟩)
    go_enter Try.func9, Try.ntmps9
    go_upto_region 1 with fail
    change Code.wp _ _ _ _ (w.alloc (.cells (RC zr).toArray 27 (0, 0)))
    rw [← HW1.out, HN.out]
    go_wp2_with (first
      | (refine wpList_store_blk rfl 27 (.tmp 2) (.tmp 14) rfl N (RC zr) (RC zr) 27 rfl rfl b1.out rfl Try.size27 (RC_one zr) ?_; intro w8 hb8 hu8)
      | fail)
    refine bodyPost_ret (results_re rfl _ _ N zr 4 rfl rfl hb8) rfl ⟨PZ.out _, l1.out.trans (hu8.below (by rw [HN.out]; omega) (by have := l1.out.size; omega))⟩
  · have q1 : decide ((8192 : Int) < (n0 : Int)) = false := by simp; omega
    obtain ⟨w2, hw2⟩ : ∃ y, y = w1.alloc (.cells #[.slice a0 n0 cap0, .bool false] 52 (0, 0)) := ⟨_, rfl⟩
    obtain ⟨b2, l2⟩ := newB (A := [.slice a0 n0 cap0, .bool false]) HN1 hw2
    have HW2 := hide hw2
    have T2 : Hid (TkAt w w2 (N + 1) (some l)) := (show TkAt _ _ _ _ from ⟨l1.out.trans (l2.out.mono l1.out.size), by rw [HN.out]; omega, _, l, b2.out, by rw [← Hn0.out] at R0 ⊢; exact R0.out, by rw [Hn0.out]; omega, fun z e => Option.some.inj e⟩)
    have RN2 := hide (b1.out.kept l2.out)
    obtain ⟨D, HD⟩ : ∃ D, Hid (N + 1 = D) := ⟨_, rfl⟩
    rw [HD.out] at T2
    have HND : Hid (N < D) := (show _ < _ by rw [← HD.out]; omega)
    obtain ⟨a, Ha⟩ : ∃ z, Hid (got (pN 8) 0 (some l) = z) := ⟨_, rfl⟩
    obtain ⟨s1, Hs1⟩ : ∃ z, Hid (aft (pN 8) (some l) = z) := ⟨_, rfl⟩
    obtain ⟨b, Hb⟩ : ∃ z, Hid (got (pN 1099511627776) 0 s1 = z) := ⟨_, rfl⟩
    obtain ⟨s2, Hs2⟩ : ∃ z, Hid (aft (pN 1099511627776) s1 = z) := ⟨_, rfl⟩
    obtain ⟨c, Hc⟩ : ∃ z, Hid (got pF false s2 = z) := ⟨_, rfl⟩
    obtain ⟨s3, Hs3⟩ : ∃ z, Hid (aft pF s2 = z) := ⟨_, rfl⟩
    obtain ⟨s4, Hs4⟩ : ∃ z, Hid (aft (pL 64 pR) s3 = z) := ⟨_, rfl⟩
    obtain ⟨s5, Hs5⟩ : ∃ z, Hid (aft (pL 64 pW) s4 = z) := ⟨_, rfl⟩
    have HPP := hide (pD_parts Ha.out Hs1.out Hb.out Hs2.out Hc.out Hs3.out Hs4.out Hs5.out)
    have C1 := hide (knum_any T2.out 8 (by decide))
    rw [Ha.out, Hs1.out] at C1
    have hbt := build_tk
    have hbr := build_rec3 (a : Int) (b : Int) c
    have hbp := build_kv
    have hbd := build_kd
    have hbf := build_fk
    have hzr := zeroXr
    have hzp := zeroPr
    clear hw2 b2
    go_enter Try.func9, Try.ntmps9
    go_upto_region 1 with fail
    change Code.wp _ _ _ _ (w.alloc (.cells (RC zr).toArray 27 (0, 0)))
    rw [← HW1.out, HN.out]
    go_upto_region 4 with fail
    change Code.wp _ _ _ _ (w1.alloc (.cells #[.slice a0 n0 cap0, .bool false] 52 (0, 0)))
    rw [← HW2.out, HN1.out, HD.out]
    go_wp2_with fail
    refine C1.out.mono ?_
    rintro e w3 ⟨rfl, t3, c3⟩
    have T3 := hide t3
    have K3 : Hid (Chg (fun k => k = D) w2 w3) := (show Chg _ _ _ from c3)
    have C2 := hide (knum_any T3.out 1099511627776 (by decide))
    rw [Hb.out, Hs2.out] at C2
    clear t3 c3 C1
    go_wp2_with fail
    refine C2.out.mono ?_
    rintro e w4 ⟨rfl, t4, c4⟩
    have T4 := hide t4
    have K4 : Hid (Chg (fun k => k = D) w2 w4) := (show Chg _ _ _ from K3.out.trans c4)
    have C3 := hide (kflag_any T4.out)
    rw [Hc.out, Hs3.out] at C3
    clear t4 c4 C2
    go_wp2_with fail
    refine C3.out.mono ?_
    rintro e w5 ⟨rfl, t5, c5⟩
    have T5 := hide t5
    have K5 : Hid (Chg (fun k => k = D) w2 w5) := (show Chg _ _ _ from K4.out.trans c5)
    clear t5 c5 C3 T3 T4 K3 K4
    obtain ⟨R, HR⟩ : ∃ R, Hid (w5.heap.size = R) := ⟨_, rfl⟩
    obtain ⟨w6, hw6⟩ : ∃ y, y = w5.alloc (.cells #[.int .i64 (a : Int), .int .i64 (b : Int), .bool c, .slice none 0 0, .slice none 0 0] 27 (0, 0)) := ⟨_, rfl⟩
    obtain ⟨b6, l6⟩ := newB (A := [.int .i64 (a : Int), .int .i64 (b : Int), .bool c, .slice none 0 0, .slice none 0 0]) HR hw6
    have HW6 := hide hw6
    have HDR : Hid (D < R) := (show _ < _ by rw [← HR.out]; exact T5.out.lt)
    have S6 : Hid (RdS w w6 N D R a b c s3 (.slice none 0 0) (.slice none 0 0) [] []) := (show RdS _ _ _ _ _ _ _ _ _ _ _ _ _ from
      ⟨T5.out.kept l6.out, (RN2.out.chg K5.out (by have := HND.out; omega)).kept l6.out, b6.out, ⟨ownG_nil _ _ _, fun y hy => by cases hy⟩, ownG_nil _ _ _, HN.out, ⟨by have := HND.out; have := HDR.out; omega, HND.out⟩, fun y hy => by cases hy⟩)
    have C6 := hide (knum_any S6.out.tk 64 (by decide))
    have GT6 := hide (Lg.start pR 64 s3)
    obtain ⟨nr, Hnr⟩ : ∃ z, Hid (got (pN 64) 0 s3 = z) := ⟨_, rfl⟩
    obtain ⟨t0, Ht0⟩ : ∃ z, Hid (aft (pN 64) s3 = z) := ⟨_, rfl⟩
    have hnr : nr ≤ 64 := by rw [← Hnr.out]; exact got_le 64 s3
    rw [Hnr.out, Ht0.out] at GT6 C6
    clear hw6 T5 b6 T2 RN2 K5
    go_upto_region 5 with (first
      | (refine wpList_store_new rfl 27 _ _ rfl w5 _ #[.int .i64 (a : Int), .int .i64 (b : Int), .bool c, .slice none 0 0, .slice none 0 0] _ rfl rfl rfl Try.size27 rfl (all_one (RC_one ⟨a, b, c, [], [], none, 0, none, 0⟩)) ?_; rw [← HW6.out, HR.out])
      | fail)
    try simp only [Act.put]
    try (rw [show w5.alloc (.cells #[.int .i64 (a : Int), .int .i64 (b : Int), .bool c, .slice none 0 0, .slice none 0 0] 27 (0, 0)) = w6 from HW6.out.symm, HR.out])
    go_wp2_with fail
    refine C6.out.mono ?_
    rintro e w7 ⟨rfl, t7, c7⟩
    have S0 : Hid (RdS w w7 N D R a b c t0 (.slice none 0 0) (.slice none 0 0) [] []) := (show RdS _ _ _ _ _ _ _ _ _ _ _ _ _ from S6.out.took t7 c7)
    have G0 : Hid (Lg pR 64 s3 nr t0 (([] : List Rz).map plR)) := (show Lg _ _ _ _ _ _ from GT6.out)
    clear t7 c7 C6 S6 GT6
    go_wp2_with fail
    go_loopg [6] (nr + 1) (fun g z wr => ∃ (j q cc : Nat) (pa : Option Addr) (L : List Rz) (si : Option (List UInt8)), g = j + 1 ∧ z = .int .i64 (j : Int) ∧ L.length + j ≤ 64 ∧ Hid (L.length = q) ∧ Hid (RdS w wr N D R a b c si (.slice pa q cc) (.slice none 0 0) L []) ∧ Hid (Lg pR 64 s3 j si (L.map plR)))
    case atStart => exact ⟨nr, 0, 0, none, [], t0, rfl, rfl, (by simpa using hnr), rfl, S0, G0⟩
    case round =>
      clear S0 G0
      obtain ⟨j, q, cc, pa, L, si, rfl, rfl, hLj, HQ, SR, GR⟩ := hrel
      obtain ⟨vt, lt, hbt9, hrt9, hlt9, hst9⟩ := SR.out.tk.b
      have dbad := hbt9.cell (j := 1) rfl
      clear hbt9 hrt9 hlt9 hst9
      rcases Nat.eq_zero_or_pos j with hj0 | hjp
      · subst hj0
        have q9 : decide ((0 : Int) < ((0 : Nat) : Int)) = false := by decide
        have E4 : Hid (si = s4) := (show _ = _ from GR.out.done.1.trans Hs4.out)
        have EL : Hid (∀ ys z, s3.bind (pL 64 pR) = some (ys, z) → L.map plR = ys) := (show ∀ ys z, _ from GR.out.done.2)
        clear dbad
        have S8 : Hid (RdS w wr N D R a b c s4 (.slice pa q cc) (.slice none 0 0) L []) := (show RdS _ _ _ _ _ _ _ _ _ _ _ _ _ by have h := SR.out; rw [E4.out] at h; exact h)
        clear SR GR E4
        have C8 := hide (knum_any S8.out.tk 64 (by decide))
        have GT8 := hide (Lg.start pW 64 s4)
        obtain ⟨nw, Hnw⟩ : ∃ z, Hid (got (pN 64) 0 s4 = z) := ⟨_, rfl⟩
        obtain ⟨t8, Ht8⟩ : ∃ z, Hid (aft (pN 64) s4 = z) := ⟨_, rfl⟩
        have hnw : nw ≤ 64 := by rw [← Hnw.out]; exact got_le 64 s4
        rw [Hnw.out, Ht8.out] at GT8 C8
        go_wp2_with fail
        refine C8.out.mono ?_
        rintro e w8 ⟨rfl, x8, c8⟩
        have S0 : Hid (RdS w w8 N D R a b c t8 (.slice pa q cc) (.slice none 0 0) L []) := (show RdS _ _ _ _ _ _ _ _ _ _ _ _ _ from S8.out.took x8 c8)
        have G0 : Hid (Lg pW 64 s4 nw t8 ([] : List Pr)) := (show Lg _ _ _ _ _ _ from GT8.out)
        clear x8 c8 C8 S8 GT8
        go_wp2_with fail
        go_loopg [9] (nw + 1) (fun g z wr => ∃ (j qw cw : Nat) (pw : Option Addr) (M : List Pr) (si : Option (List UInt8)), g = j + 1 ∧ z = .int .i64 (j : Int) ∧ M.length + j ≤ 64 ∧ Hid (M.length = qw) ∧ Hid (RdS w wr N D R a b c si (.slice pa q cc) (.slice pw qw cw) L M) ∧ Hid (Lg pW 64 s4 j si M))
        case atStart => exact ⟨nw, 0, 0, none, [], t8, rfl, rfl, (by simpa using hnw), rfl, S0, G0⟩
        case round =>
          clear S0 G0
          obtain ⟨j, qw, cw, pw, M, si, rfl, rfl, hMj, HM, SW, GW⟩ := hrel
          obtain ⟨vt, lt, hbt9, hrt9, hlt9, hst9⟩ := SW.out.tk.b
          have dbad := hbt9.cell (j := 1) rfl
          clear hbt9 hrt9 hlt9 hst9
          rcases Nat.eq_zero_or_pos j with hj0 | hjp
          · subst hj0
            have q9 : decide ((0 : Int) < ((0 : Nat) : Int)) = false := by decide
            have E5 : Hid (si = s5) := (show _ = _ from GW.out.done.1.trans Hs5.out)
            have EM : Hid (∀ ys z, s4.bind (pL 64 pW) = some (ys, z) → M = ys) := (show ∀ ys z, _ from GW.out.done.2)
            clear dbad
            skip
            cases si with
            | none =>
              have PE : Hid (∀ r2, soundP r2 = true → eD (pdR r2) = l → s5 = some []) := (show ∀ r2, _ from fun r2 h1 h2 => by
                rw [← HPP.out.1]
                exact aft_some (read_all h1 h2))
              have PZ : Hid (s5 ≠ some [] → ∀ W, RdPost l (.returned (.tuple #[.agg (RC zr).toArray, .int .i64 4])) W) := (show _ → ∀ W, _ from fun hs W => ⟨zr, 4, rfl, zr_ok W, .inr ⟨rfl, rfl, fun r2 h1 h2 => absurd (PE.out r2 h1 h2) hs⟩⟩)
              have LB : Hid (∀ w8, But N wr w8 → Below w.heap.size w w8) := (show ∀ w8, _ from fun w8 h8 => SW.out.tk.base.trans (h8.below (by rw [HN.out]; omega) SW.out.tk.base.size))
              have BN := hide SW.out.rn
              obtain ⟨vt, lt, hbt9, hrt9, hlt9, hst9⟩ := SW.out.tk.b
              obtain ⟨at9, ct9, rfl⟩ := hrt9.slice
              have d1 := hbt9.cell (j := 1) rfl
              have d0 := hbt9.cell (j := 0) rfl
              have HS9 : Hid (s5 ≠ some []) := (show _ from by rw [← E5.out]; exact fun h => by cases h)
              have d1 : wr.cell? ⟨D, 1, none⟩ = some (.bool true) := d1
              clear hbt9 hrt9 hlt9 hst9
              go_wp2_with (first
                | (refine wpList_store_blk rfl 27 (.tmp 2) (.tmp 124) rfl N (RC zr) (RC zr) 27 rfl rfl BN.out rfl Try.size27 (RC_one zr) ?_; intro w8 hb8 hu8)
                | fail)
              refine bodyPost_ret (results_re rfl _ _ N zr 4 rfl rfl hb8) rfl ⟨PZ.out HS9.out _, LB.out w8 hu8⟩
            | some lt9 =>
              have PE : Hid (∀ r2, soundP r2 = true → eD (pdR r2) = l → s5 = some []) := (show ∀ r2, _ from fun r2 h1 h2 => by
                rw [← HPP.out.1]
                exact aft_some (read_all h1 h2))
              have PZ : Hid (s5 ≠ some [] → ∀ W, RdPost l (.returned (.tuple #[.agg (RC zr).toArray, .int .i64 4])) W) := (show _ → ∀ W, _ from fun hs W => ⟨zr, 4, rfl, zr_ok W, .inr ⟨rfl, rfl, fun r2 h1 h2 => absurd (PE.out r2 h1 h2) hs⟩⟩)
              have LB : Hid (∀ w8, But N wr w8 → Below w.heap.size w w8) := (show ∀ w8, _ from fun w8 h8 => SW.out.tk.base.trans (h8.below (by rw [HN.out]; omega) SW.out.tk.base.size))
              have BN := hide SW.out.rn
              obtain ⟨vt, lt, hbt9, hrt9, hlt9, hst9⟩ := SW.out.tk.b
              obtain ⟨at9, ct9, rfl⟩ := hrt9.slice
              have d1 := hbt9.cell (j := 1) rfl
              have d0 := hbt9.cell (j := 0) rfl
              obtain rfl := hst9 _ rfl
              have d1 : wr.cell? ⟨D, 1, none⟩ = some (.bool false) := d1
              obtain ⟨nz, Hnz⟩ : ∃ z, Hid (lt.length = z) := ⟨_, rfl⟩
              rw [Hnz.out] at d0 hlt9
              clear hbt9 hrt9 hst9
              by_cases hz0 : 0 < nz
              · have q2 : decide ((0 : Int) < (nz : Int)) = true := decide_eq_true (by omega)
                have HS9 : Hid (s5 ≠ some []) := (show _ from by rw [← E5.out]; intro h; have := congrArg List.length (Option.some.inj h); rw [Hnz.out] at this; simp at this; omega)
                go_wp2_with (first
                  | (refine wpList_store_blk rfl 27 (.tmp 2) (.tmp 124) rfl N (RC zr) (RC zr) 27 rfl rfl BN.out rfl Try.size27 (RC_one zr) ?_; intro w8 hb8 hu8)
                  | fail)
                refine bodyPost_ret (results_re rfl _ _ N zr 4 rfl rfl hb8) rfl ⟨PZ.out HS9.out _, LB.out w8 hu8⟩
              have q2 : decide ((0 : Int) < (nz : Int)) = false := decide_eq_false (by omega)
              have hlt0 : lt = [] := List.eq_nil_of_length_eq_zero (by rw [Hnz.out]; omega)
              subst hlt0
              obtain ⟨r, Hr⟩ : ∃ r : Rc, Hid (r = ⟨a, b, c, L, M, pa, cc, pw, cw⟩) := ⟨_, rfl⟩
              have HRC : Hid (RC r = [.int .i64 (a : Int), .int .i64 (b : Int), .bool c, .slice pa q cc, .slice pw qw cw]) := (show _ = _ by rw [Hr.out]; unfold RC; simp only [HQ.out, HM.out])
              have RO : Hid (ROk wr r) := (show ROk _ _ from ⟨by rw [Hr.out]; unfold rv; simp only [HQ.out]; exact SW.out.rs.rd, by rw [Hr.out]; unfold wv; simp only [HM.out]; exact SW.out.ws.rd⟩)
              have HDD : Hid (∃ d, pD l = some (d, []) ∧ pdR r = d) := (show ∃ d, _ from by
                have h1 := HPP.out.1
                rw [← E5.out] at h1
                cases hp : pD l with
                | none => rw [aft_no hp] at h1; cases h1
                | some x9 =>
                  obtain ⟨d, z⟩ := x9
                  rw [aft_some hp] at h1
                  have hz9 := Option.some.inj h1
                  subst hz9
                  obtain ⟨rs, ws, z1, z2, g1, g2, g3⟩ := HPP.out.2 d [] (by simp [hp])
                  refine ⟨d, rfl, ?_⟩
                  rw [Hr.out, g3]
                  unfold pdR
                  simp only [Int.toNat_natCast, EL.out rs z1 g1, EM.out ws z2 g2])
              have HA4 : Hid (0 ≤ r.ses ∧ 0 ≤ r.snap) := (show _ ∧ _ from by rw [Hr.out]; exact ⟨Int.natCast_nonneg _, Int.natCast_nonneg _⟩)
              have HGS : Hid (goodR r = soundP r) := (show _ = _ by
                obtain ⟨d, h3, h4⟩ := HDD.out
                have h5 := (pD_ok h3).1
                rw [List.append_nil] at h5
                unfold goodR
                rw [h4, ← h5, decide_eq_true (show l.length ≤ 8192 by rw [Hn0.out]; omega), Bool.and_true])
              have CG := hide (kgood_any RO.out)
              rw [HGS.out] at CG
              obtain ⟨sd, Hsd⟩ : ∃ z, Hid (soundP r = z) := ⟨_, rfl⟩
              rw [Hsd.out] at CG
              have BR : Hid (Blk wr R 27 (RC r)) := (show Blk _ _ _ _ by rw [HRC.out]; exact SW.out.rr)
              have rk := BR.out.range0
              go_wp2_with (first
                | (refine wpList_load_mid rfl 27 _ rfl R 0 rfl (RC r) _ rk Try.underlying27 rfl Try.size27 ?_)
                | (refine wpList_load_w9 rfl 27 _ rfl R 0 rfl (RC r) _ rk Try.underlying27 rfl Try.size27 ?_)
                | fail)
              refine CG.out.mono ?_
              rintro e w9 ⟨rfl, hb9⟩
              have BN9 := hide (BN.out.kept hb9)
              have LB9 : Hid (∀ w8, But N w9 w8 → Below w.heap.size w w8) := (show ∀ w8, _ from fun w8 h8 => (SW.out.tk.base.trans (hb9.mono SW.out.tk.base.size)).trans (h8.below (by rw [HN.out]; omega) (Nat.le_trans SW.out.tk.base.size hb9.size)))
              have rk9 := (BR.out.kept hb9).range0
              have HB9 := hide hb9
              clear hb9 CG rk d0 d1
              cases sd with
              | false =>
                have HZ9 : Hid (∀ W, RdPost l (.returned (.tuple #[.agg (RC zr).toArray, .int .i64 4])) W) := (show ∀ W, _ from fun W => ⟨zr, 4, rfl, zr_ok W, .inr ⟨rfl, rfl, fun r2 h1 h2 => by
                  obtain ⟨d, h3, h4⟩ := HDD.out
                  rw [read_all h1 h2] at h3
                  have h5 : pdR r2 = d := (Prod.mk.inj (Option.some.inj h3)).1
                  have h6 := sound_pd (h4.trans h5.symm) HA4.out.1 HA4.out.2 h1
                  rw [Hsd.out] at h6
                  cases h6⟩⟩)
                go_wp2_with (first
                  | (refine wpList_store_blk rfl 27 (.tmp 2) (.tmp 124) rfl N (RC zr) (RC zr) 27 rfl rfl BN9.out rfl Try.size27 (RC_one zr) ?_; intro w8 hb8 hu8)
                  | fail)
                refine bodyPost_ret (results_re rfl _ _ N zr 4 rfl rfl hb8) rfl ⟨HZ9.out _, LB9.out w8 hu8⟩
              | true =>
                have HF : Hid (soundP r = true ∧ eD (pdR r) = l ∧ l.length ≤ 8192) := (show _ ∧ _ ∧ _ from by
                  obtain ⟨d, h3, h4⟩ := HDD.out
                  have h5 := (pD_ok h3).1
                  rw [List.append_nil] at h5
                  exact ⟨Hsd.out, by rw [h4]; exact h5.symm, by rw [Hn0.out]; omega⟩)
                go_wp2_with (first
                  | (refine wpList_load_mid rfl 27 _ rfl R 0 rfl (RC r) _ rk9 Try.underlying27 rfl Try.size27 ?_)
                  | (refine wpList_store_blk rfl 27 (.tmp 2) (.tmp 125) rfl N (RC zr) (RC r) 27 rfl rfl BN9.out rfl Try.size27 (RC_one r) ?_; intro w8 hb8 hu8)
                  | fail)
                have C8 : Chg (fun k => k = N) w9 w8 := Chg.of_but hu8 rfl
                have S9 : RdS w w9 N D R a b c (some []) (.slice pa q cc) (.slice pw qw cw) L M := SW.out.below SW.out.low HB9.out
                have RO8 : ROk w8 r := by
                  have hT : ∀ {E : Nat} {α : Type} {G : Enc α} {T : TypeId} {vv : Value} {LL : List α}, OwnG G w9 E T vv LL → T ≠ 27 → OwnG G w8 E T vv LL := fun ho hT => ho.chg C8 fun k hk e => by
                    obtain ⟨_, _, cu, h5⟩ := ho.block hk
                    exact cells_ne h5 BN9.out hT e
                  refine ⟨⟨?_, fun y hy => ?_⟩, ?_⟩
                  · rw [Hr.out]; unfold rv; simp only [HQ.out]; exact (hT S9.rs.row (by decide)).rd
                  · rw [Hr.out] at hy; exact (hT (S9.rs.ps y hy) (by decide)).rd
                  · rw [Hr.out]; unfold wv; simp only [HM.out]; exact (hT S9.ws (by decide)).rd
                refine bodyPost_ret (results_re rfl _ _ N r 0 rfl rfl hb8) rfl ⟨⟨r, 0, rfl, RO8, .inl ⟨rfl, HF.out⟩⟩, LB9.out w8 hu8⟩
          · have hjI : (0 : Int) < (j : Int) := by omega
            cases si with
            | none =>
              have dbad : wr.cell? ⟨D, 1, none⟩ = some (.bool true) := dbad
              have E5 : Hid ((none : Option (List UInt8)) = s5) := (show _ = _ from GW.out.lost.1.trans Hs5.out)
              have PE : Hid (∀ r2, soundP r2 = true → eD (pdR r2) = l → s5 = some []) := (show ∀ r2, _ from fun r2 h1 h2 => by
                rw [← HPP.out.1]
                exact aft_some (read_all h1 h2))
              have PZ : Hid (s5 ≠ some [] → ∀ W, RdPost l (.returned (.tuple #[.agg (RC zr).toArray, .int .i64 4])) W) := (show _ → ∀ W, _ from fun hs W => ⟨zr, 4, rfl, zr_ok W, .inr ⟨rfl, rfl, fun r2 h1 h2 => absurd (PE.out r2 h1 h2) hs⟩⟩)
              have LB : Hid (∀ w8, But N wr w8 → Below w.heap.size w w8) := (show ∀ w8, _ from fun w8 h8 => SW.out.tk.base.trans (h8.below (by rw [HN.out]; omega) SW.out.tk.base.size))
              have BN := hide SW.out.rn
              obtain ⟨vt, lt, hbt9, hrt9, hlt9, hst9⟩ := SW.out.tk.b
              obtain ⟨at9, ct9, rfl⟩ := hrt9.slice
              have d1 := hbt9.cell (j := 1) rfl
              have d0 := hbt9.cell (j := 0) rfl
              have HS9 : Hid (s5 ≠ some []) := (show _ from by rw [← E5.out]; exact fun h => by cases h)
              have d1 : wr.cell? ⟨D, 1, none⟩ = some (.bool true) := d1
              clear hbt9 hrt9 hlt9 hst9
              go_wp2_with (first
                | (refine wpList_store_blk rfl 27 (.tmp 2) (.tmp 124) rfl N (RC zr) (RC zr) 27 rfl rfl BN.out rfl Try.size27 (RC_one zr) ?_; intro w8 hb8 hu8)
                | fail)
              refine bodyPost_ret (results_re rfl _ _ N zr 4 rfl rfl hb8) rfl ⟨PZ.out HS9.out _, LB.out w8 hu8⟩
            | some lw =>
              have dbad : wr.cell? ⟨D, 1, none⟩ = some (.bool false) := dbad
              obtain ⟨m, rfl⟩ : ∃ m, j = m + 1 := ⟨j - 1, by omega⟩
              obtain ⟨W, HWr⟩ : ∃ z, Hid (wr.heap.size = z) := ⟨_, rfl⟩
              have LW := hide SW.out.low
              rw [HWr.out] at LW
              obtain ⟨k, Hk⟩ : ∃ z, Hid (got (pS 64) em (some lw) = z) := ⟨_, rfl⟩
              obtain ⟨x1, Hx1⟩ : ∃ z, Hid (aft (pS 64) (some lw) = z) := ⟨_, rfl⟩
              obtain ⟨d, Hd⟩ : ∃ z, Hid (got pF false x1 = z) := ⟨_, rfl⟩
              obtain ⟨x2, Hx2⟩ : ∃ z, Hid (aft pF x1 = z) := ⟨_, rfl⟩
              have HWP := hide (pW_parts Hk.out Hx1.out Hd.out Hx2.out)
              have C1 := hide (kstr_any SW.out.tk 64 (by decide))
              rw [Hk.out, Hx1.out] at C1
              go_wp2_with fail
              refine C1.out.mono ?_
              rintro e w10 ⟨rfl, y10, c10⟩
              have S10 := hide (SW.out.took y10 c10)
              have Z10 : Hid (W ≤ w10.heap.size) := (show _ ≤ _ by have := c10.size; have := HWr.out; omega)
              have C2 := hide (kflag_any S10.out.tk)
              rw [Hd.out, Hx2.out] at C2
              clear y10 c10 C1 dbad
              go_wp2_with fail
              refine C2.out.mono ?_
              rintro e w11 ⟨rfl, y11, c11⟩
              have S11 := hide (S10.out.took y11 c11)
              have Z11 : Hid (W ≤ w11.heap.size) := (show _ ≤ _ by have := c11.size; have := Z10.out; omega)
              clear y11 c11 C2 S10 Z10
              obtain ⟨X, HX⟩ : ∃ z, Hid (w11.heap.size = z) := ⟨_, rfl⟩
              obtain ⟨w12, hw12⟩ : ∃ y, y = w11.alloc (.cells (PC (k, em, d)).toArray 41 (0, 0)) := ⟨_, rfl⟩
              obtain ⟨b12, l12⟩ := newB HX hw12
              have HW12 := hide hw12
              have S12 := hide (S11.out.below S11.out.low l12.out)
              have hWX : W ≤ X := by rw [← HX.out]; exact Z11.out
              have Z12 : Hid (W ≤ w12.heap.size) := (show _ ≤ _ by have := l12.out.size; have := Z11.out; omega)
              clear hw12 S11
              go_upto_region 20 with (first
                | (refine wpList_store_new rfl 41 _ _ rfl w11 _ (PC (k, em, d)).toArray _ rfl rfl rfl Try.size41 rfl (all_one (PC_one (k, em, d))) ?_; rw [← HW12.out, HX.out])
                | fail)
              try simp only [Act.put]
              try (rw [show w11.alloc (.cells (PC (k, em, d)).toArray 41 (0, 0)) = w12 from HW12.out.symm, HX.out])
              have e2 := b12.out.cell (j := 2) rfl
              cases d with
              | true =>
                have HXX : Hid (aft (pT (!true) 256) x2 = x2) := (show _ = _ by cases x2 <;> rfl)
                have HGV : Hid (got (pT (!true) 256) em x2 = em) := (show _ = _ by cases x2 <;> rfl)
                obtain ⟨x3, Hx3⟩ : ∃ z, Hid (x2 = z) := ⟨_, rfl⟩
                have S13 : Hid (RdS w w12 N D R a b c x3 (.slice pa q cc) (.slice pw qw cw) L M) := (show RdS _ _ _ _ _ _ _ _ _ _ _ _ _ by rw [← Hx3.out]; exact S12.out)
                have HPR : Hid (x3 = aft pW (some lw) ∧ ∀ y z, (some lw).bind pW = some (y, z) → (k, em, true) = y) := (show _ ∧ _ from ⟨by rw [HWP.out.1, HXX.out, Hx3.out], fun y z hy => by have h := HWP.out.2 y z hy; rw [HGV.out] at h; exact h⟩)
                have GN : Hid (Lg pW 64 s4 m x3 (M ++ [(k, em, true)])) := (show Lg _ _ _ _ _ _ by rw [HPR.out.1]; exact GW.out.next HPR.out.2)
                obtain ⟨p9_, Hp9⟩ : ∃ z : Pr, Hid (z = (k, em, true)) := ⟨_, rfl⟩
                have BX : Hid (Blk w12 X 41 (PC p9_)) := (show Blk _ _ _ _ by rw [Hp9.out]; exact b12.out)
                rw [← Hp9.out] at GN
                have d4 := S13.out.rr.cell (j := 4) rfl
                have rk := BX.out.range0
                obtain ⟨w14, hw14⟩ : ∃ y, y = w12.alloc (.cells (PE.c p9_).toArray 41 (0, 0)) := ⟨_, rfl⟩
                have l14 : Hid (Below w12.heap.size w12 w14) := (show Below _ _ _ by rw [hw14]; exact (Below.refl _ _).alloc (Nat.le_refl _) _)
                have R14 : Hid (RdG PE w14 (.slice (some ⟨w12.heap.size, 0, none⟩) 1 1) [p9_]) := (show RdG _ _ _ _ by rw [hw14]; exact rdG_one (E := PE) w12 41 p9_)
                have S14 := hide (S13.out.below S13.out.low l14.out)
                have HL9 : Hid (M.length + [p9_].length ≤ 10000000) := (show _ ≤ _ by rw [List.length_singleton]; omega)
                have HL8 : Hid (N ≤ w14.heap.size) := (show _ ≤ _ from Nat.le_of_lt S14.out.rn.lt)
                have HW14 := hide hw14
                clear hw14
                go_wp2_with (first
                  | (refine wpList_load_mid rfl 41 _ rfl X 0 rfl (PC p9_) _ rk Try.underlying41 rfl Try.size41 ?_)
                  | (refine wpList_build1E (E := PE) build_pairs1 rfl _ rfl p9_ rfl ?_; change wpList _ _ _ _ _ (w12.alloc (.cells (PE.c p9_).toArray 41 (0, 0))); rw [← HW14.out])
                  | (refine wpList_append_E (E := PE) Try.underlying25 infoP9 (by decide) rfl (.tmp 102) (.tmp 104) rfl N (.slice pw qw cw) M rfl S14.out.ws (.slice (some ⟨w12.heap.size, 0, none⟩) 1 1) [p9_] rfl R14.out HL9.out HL8.out ?_; intro v9 w15 o9 g9 q9; obtain ⟨a9, c9, hv9⟩ := o9.form; have hn9 : (M ++ [p9_]).length = qw + 1 := (by rw [List.length_append, List.length_singleton, HM.out]); rw [hn9] at hv9; subst hv9; have K15 : Chg (fun b => (Value.slice pw qw cw).ownBlock = some b) w14 w15 := Chg.of_grown g9 (fun k e _ => e); have hE := hide (S14.out.wrow K15); have AP := hide (S14.out.apN q9); have O9 := hide o9; have HN9 := hide hn9; clear o9 g9 q9 hn9 K15)
                  | (refine wpList_store_sl rfl 25 szs _ _ rfl R 4 27 _ _ _ _ rfl rfl hE.out.2 (show 4 < 5 by decide) ?_; intro w16 hb16 hu16)
                  | fail)
                have S16 : Hid (RdS w w16 N D R a b c x3 (.slice pa q cc) (.slice a9 (qw + 1) c9) L (M ++ [p9_])) := (show RdS _ _ _ _ _ _ _ _ _ _ _ _ _ from by
                  have C16 : Chg (fun k => k = R) w15 w16 := Chg.of_but hu16 rfl
                  exact hE.out.1.store O9.out AP.out hE.out.2 C16 hb16)
                clear hb16 hu16 O9 AP hE
                have hw64 : wrap64 (((m + 1 : Nat) : Int) - 1) = (m : Int) := by unfold wrap64; omega
                go_wp2_with fail
                go_roundg (m + 1)
                case measure => omega
                case rel => exact ⟨m, qw + 1, c9, a9, M ++ [p9_], x3, rfl, by go_num, by rw [HN9.out]; have := HM.out; omega, HN9, S16, GN⟩
              | false =>
                obtain ⟨vv, Hvv⟩ : ∃ z, Hid (got (pS 256) em x2 = z) := ⟨_, rfl⟩
                have C3 := hide (kstr_any S12.out.tk 256 (by decide))
                rw [Hvv.out] at C3
                go_wp2_with fail
                refine C3.out.mono ?_
                rintro e w13 ⟨rfl, y13, c13⟩
                have S13a := hide (S12.out.took y13 c13)
                have B13 := hide (b12.out.chg c13 (S12.out.tk.neT b12.out (by decide)))
                have Z13 : Hid (W ≤ w13.heap.size) := (show _ ≤ _ by have := c13.size; have := Z12.out; omega)
                have hcl : 1 < (PC (k, em, false)).length := (show 1 < 3 by decide)
                clear y13 c13 C3 e2
                go_upto_region 22 with (first
                  | (refine wpList_store_st rfl 9 szst _ _ rfl X 1 41 (PC (k, em, false)) _ rfl rfl B13.out hcl ?_; intro w17 hb17 hu17)
                  | fail)
                try simp only [Act.put]
                have B17 : Hid (Blk w17 X 41 (PC (k, vv, false))) := (show Blk _ _ _ _ from hb17)
                have S17 := hide (S13a.out.below (W := W) LW.out (hu17.below hWX Z13.out))
                have HXX : Hid (aft (pT (!false) 256) x2 = aft (pS 256) x2) := (show _ = _ from rfl)
                have HGV : Hid (got (pT (!false) 256) em x2 = vv) := (show _ = _ from Hvv.out)
                clear hb17 hu17 S13a B13 Z13
                obtain ⟨x3, Hx3⟩ : ∃ z, Hid (aft (pS 256) x2 = z) := ⟨_, rfl⟩
                have S13 : Hid (RdS w w17 N D R a b c x3 (.slice pa q cc) (.slice pw qw cw) L M) := (show RdS _ _ _ _ _ _ _ _ _ _ _ _ _ by rw [← Hx3.out]; exact S17.out)
                have HPR : Hid (x3 = aft pW (some lw) ∧ ∀ y z, (some lw).bind pW = some (y, z) → (k, vv, false) = y) := (show _ ∧ _ from ⟨by rw [HWP.out.1, HXX.out, Hx3.out], fun y z hy => by have h := HWP.out.2 y z hy; rw [HGV.out] at h; exact h⟩)
                have GN : Hid (Lg pW 64 s4 m x3 (M ++ [(k, vv, false)])) := (show Lg _ _ _ _ _ _ by rw [HPR.out.1]; exact GW.out.next HPR.out.2)
                obtain ⟨p9_, Hp9⟩ : ∃ z : Pr, Hid (z = (k, vv, false)) := ⟨_, rfl⟩
                have BX : Hid (Blk w17 X 41 (PC p9_)) := (show Blk _ _ _ _ by rw [Hp9.out]; exact B17.out)
                rw [← Hp9.out] at GN
                have d4 := S13.out.rr.cell (j := 4) rfl
                have rk := BX.out.range0
                obtain ⟨w14, hw14⟩ : ∃ y, y = w17.alloc (.cells (PE.c p9_).toArray 41 (0, 0)) := ⟨_, rfl⟩
                have l14 : Hid (Below w17.heap.size w17 w14) := (show Below _ _ _ by rw [hw14]; exact (Below.refl _ _).alloc (Nat.le_refl _) _)
                have R14 : Hid (RdG PE w14 (.slice (some ⟨w17.heap.size, 0, none⟩) 1 1) [p9_]) := (show RdG _ _ _ _ by rw [hw14]; exact rdG_one (E := PE) w17 41 p9_)
                have S14 := hide (S13.out.below S13.out.low l14.out)
                have HL9 : Hid (M.length + [p9_].length ≤ 10000000) := (show _ ≤ _ by rw [List.length_singleton]; omega)
                have HL8 : Hid (N ≤ w14.heap.size) := (show _ ≤ _ from Nat.le_of_lt S14.out.rn.lt)
                have HW14 := hide hw14
                clear hw14
                go_wp2_with (first
                  | (refine wpList_load_mid rfl 41 _ rfl X 0 rfl (PC p9_) _ rk Try.underlying41 rfl Try.size41 ?_)
                  | (refine wpList_build1E (E := PE) build_pairs1 rfl _ rfl p9_ rfl ?_; change wpList _ _ _ _ _ (w17.alloc (.cells (PE.c p9_).toArray 41 (0, 0))); rw [← HW14.out])
                  | (refine wpList_append_E (E := PE) Try.underlying25 infoP9 (by decide) rfl (.tmp 102) (.tmp 104) rfl N (.slice pw qw cw) M rfl S14.out.ws (.slice (some ⟨w17.heap.size, 0, none⟩) 1 1) [p9_] rfl R14.out HL9.out HL8.out ?_; intro v9 w15 o9 g9 q9; obtain ⟨a9, c9, hv9⟩ := o9.form; have hn9 : (M ++ [p9_]).length = qw + 1 := (by rw [List.length_append, List.length_singleton, HM.out]); rw [hn9] at hv9; subst hv9; have K15 : Chg (fun b => (Value.slice pw qw cw).ownBlock = some b) w14 w15 := Chg.of_grown g9 (fun k e _ => e); have hE := hide (S14.out.wrow K15); have AP := hide (S14.out.apN q9); have O9 := hide o9; have HN9 := hide hn9; clear o9 g9 q9 hn9 K15)
                  | (refine wpList_store_sl rfl 25 szs _ _ rfl R 4 27 _ _ _ _ rfl rfl hE.out.2 (show 4 < 5 by decide) ?_; intro w16 hb16 hu16)
                  | fail)
                have S16 : Hid (RdS w w16 N D R a b c x3 (.slice pa q cc) (.slice a9 (qw + 1) c9) L (M ++ [p9_])) := (show RdS _ _ _ _ _ _ _ _ _ _ _ _ _ from by
                  have C16 : Chg (fun k => k = R) w15 w16 := Chg.of_but hu16 rfl
                  exact hE.out.1.store O9.out AP.out hE.out.2 C16 hb16)
                clear hb16 hu16 O9 AP hE
                have hw64 : wrap64 (((m + 1 : Nat) : Int) - 1) = (m : Int) := by unfold wrap64; omega
                go_wp2_with fail
                go_roundg (m + 1)
                case measure => omega
                case rel => exact ⟨m, qw + 1, c9, a9, M ++ [p9_], x3, rfl, by go_num, by rw [HN9.out]; have := HM.out; omega, HN9, S16, GN⟩
      · have hjI : (0 : Int) < (j : Int) := by omega
        cases si with
        | none =>
          have dbad : wr.cell? ⟨D, 1, none⟩ = some (.bool true) := dbad
          have E4 : Hid ((none : Option (List UInt8)) = s4) := (show _ = _ from GR.out.lost.1.trans Hs4.out)
          have EL : Hid (∀ ys z, s3.bind (pL 64 pR) = some (ys, z) → L.map plR = ys) := (show ∀ ys z, _ from GR.out.lost.2)
          have S8 : Hid (RdS w wr N D R a b c s4 (.slice pa q cc) (.slice none 0 0) L []) := (show RdS _ _ _ _ _ _ _ _ _ _ _ _ _ by have h := SR.out; rw [E4.out] at h; exact h)
          clear SR GR E4
          have C8 := hide (knum_any S8.out.tk 64 (by decide))
          have GT8 := hide (Lg.start pW 64 s4)
          obtain ⟨nw, Hnw⟩ : ∃ z, Hid (got (pN 64) 0 s4 = z) := ⟨_, rfl⟩
          obtain ⟨t8, Ht8⟩ : ∃ z, Hid (aft (pN 64) s4 = z) := ⟨_, rfl⟩
          have hnw : nw ≤ 64 := by rw [← Hnw.out]; exact got_le 64 s4
          rw [Hnw.out, Ht8.out] at GT8 C8
          go_wp2_with fail
          refine C8.out.mono ?_
          rintro e w8 ⟨rfl, x8, c8⟩
          have S0 : Hid (RdS w w8 N D R a b c t8 (.slice pa q cc) (.slice none 0 0) L []) := (show RdS _ _ _ _ _ _ _ _ _ _ _ _ _ from S8.out.took x8 c8)
          have G0 : Hid (Lg pW 64 s4 nw t8 ([] : List Pr)) := (show Lg _ _ _ _ _ _ from GT8.out)
          clear x8 c8 C8 S8 GT8
          go_wp2_with fail
          go_loopg [9] (nw + 1) (fun g z wr => ∃ (j qw cw : Nat) (pw : Option Addr) (M : List Pr) (si : Option (List UInt8)), g = j + 1 ∧ z = .int .i64 (j : Int) ∧ M.length + j ≤ 64 ∧ Hid (M.length = qw) ∧ Hid (RdS w wr N D R a b c si (.slice pa q cc) (.slice pw qw cw) L M) ∧ Hid (Lg pW 64 s4 j si M))
          case atStart => exact ⟨nw, 0, 0, none, [], t8, rfl, rfl, (by simpa using hnw), rfl, S0, G0⟩
          case round =>
            clear S0 G0
            obtain ⟨j, qw, cw, pw, M, si, rfl, rfl, hMj, HM, SW, GW⟩ := hrel
            obtain ⟨vt, lt, hbt9, hrt9, hlt9, hst9⟩ := SW.out.tk.b
            have dbad := hbt9.cell (j := 1) rfl
            clear hbt9 hrt9 hlt9 hst9
            rcases Nat.eq_zero_or_pos j with hj0 | hjp
            · subst hj0
              have q9 : decide ((0 : Int) < ((0 : Nat) : Int)) = false := by decide
              have E5 : Hid (si = s5) := (show _ = _ from GW.out.done.1.trans Hs5.out)
              have EM : Hid (∀ ys z, s4.bind (pL 64 pW) = some (ys, z) → M = ys) := (show ∀ ys z, _ from GW.out.done.2)
              clear dbad
              skip
              cases si with
              | none =>
                have PE : Hid (∀ r2, soundP r2 = true → eD (pdR r2) = l → s5 = some []) := (show ∀ r2, _ from fun r2 h1 h2 => by
                  rw [← HPP.out.1]
                  exact aft_some (read_all h1 h2))
                have PZ : Hid (s5 ≠ some [] → ∀ W, RdPost l (.returned (.tuple #[.agg (RC zr).toArray, .int .i64 4])) W) := (show _ → ∀ W, _ from fun hs W => ⟨zr, 4, rfl, zr_ok W, .inr ⟨rfl, rfl, fun r2 h1 h2 => absurd (PE.out r2 h1 h2) hs⟩⟩)
                have LB : Hid (∀ w8, But N wr w8 → Below w.heap.size w w8) := (show ∀ w8, _ from fun w8 h8 => SW.out.tk.base.trans (h8.below (by rw [HN.out]; omega) SW.out.tk.base.size))
                have BN := hide SW.out.rn
                obtain ⟨vt, lt, hbt9, hrt9, hlt9, hst9⟩ := SW.out.tk.b
                obtain ⟨at9, ct9, rfl⟩ := hrt9.slice
                have d1 := hbt9.cell (j := 1) rfl
                have d0 := hbt9.cell (j := 0) rfl
                have HS9 : Hid (s5 ≠ some []) := (show _ from by rw [← E5.out]; exact fun h => by cases h)
                have d1 : wr.cell? ⟨D, 1, none⟩ = some (.bool true) := d1
                clear hbt9 hrt9 hlt9 hst9
                go_wp2_with (first
                  | (refine wpList_store_blk rfl 27 (.tmp 2) (.tmp 124) rfl N (RC zr) (RC zr) 27 rfl rfl BN.out rfl Try.size27 (RC_one zr) ?_; intro w8 hb8 hu8)
                  | fail)
                refine bodyPost_ret (results_re rfl _ _ N zr 4 rfl rfl hb8) rfl ⟨PZ.out HS9.out _, LB.out w8 hu8⟩
              | some lt9 =>
                have PE : Hid (∀ r2, soundP r2 = true → eD (pdR r2) = l → s5 = some []) := (show ∀ r2, _ from fun r2 h1 h2 => by
                  rw [← HPP.out.1]
                  exact aft_some (read_all h1 h2))
                have PZ : Hid (s5 ≠ some [] → ∀ W, RdPost l (.returned (.tuple #[.agg (RC zr).toArray, .int .i64 4])) W) := (show _ → ∀ W, _ from fun hs W => ⟨zr, 4, rfl, zr_ok W, .inr ⟨rfl, rfl, fun r2 h1 h2 => absurd (PE.out r2 h1 h2) hs⟩⟩)
                have LB : Hid (∀ w8, But N wr w8 → Below w.heap.size w w8) := (show ∀ w8, _ from fun w8 h8 => SW.out.tk.base.trans (h8.below (by rw [HN.out]; omega) SW.out.tk.base.size))
                have BN := hide SW.out.rn
                obtain ⟨vt, lt, hbt9, hrt9, hlt9, hst9⟩ := SW.out.tk.b
                obtain ⟨at9, ct9, rfl⟩ := hrt9.slice
                have d1 := hbt9.cell (j := 1) rfl
                have d0 := hbt9.cell (j := 0) rfl
                obtain rfl := hst9 _ rfl
                have d1 : wr.cell? ⟨D, 1, none⟩ = some (.bool false) := d1
                obtain ⟨nz, Hnz⟩ : ∃ z, Hid (lt.length = z) := ⟨_, rfl⟩
                rw [Hnz.out] at d0 hlt9
                clear hbt9 hrt9 hst9
                by_cases hz0 : 0 < nz
                · have q2 : decide ((0 : Int) < (nz : Int)) = true := decide_eq_true (by omega)
                  have HS9 : Hid (s5 ≠ some []) := (show _ from by rw [← E5.out]; intro h; have := congrArg List.length (Option.some.inj h); rw [Hnz.out] at this; simp at this; omega)
                  go_wp2_with (first
                    | (refine wpList_store_blk rfl 27 (.tmp 2) (.tmp 124) rfl N (RC zr) (RC zr) 27 rfl rfl BN.out rfl Try.size27 (RC_one zr) ?_; intro w8 hb8 hu8)
                    | fail)
                  refine bodyPost_ret (results_re rfl _ _ N zr 4 rfl rfl hb8) rfl ⟨PZ.out HS9.out _, LB.out w8 hu8⟩
                have q2 : decide ((0 : Int) < (nz : Int)) = false := decide_eq_false (by omega)
                have hlt0 : lt = [] := List.eq_nil_of_length_eq_zero (by rw [Hnz.out]; omega)
                subst hlt0
                obtain ⟨r, Hr⟩ : ∃ r : Rc, Hid (r = ⟨a, b, c, L, M, pa, cc, pw, cw⟩) := ⟨_, rfl⟩
                have HRC : Hid (RC r = [.int .i64 (a : Int), .int .i64 (b : Int), .bool c, .slice pa q cc, .slice pw qw cw]) := (show _ = _ by rw [Hr.out]; unfold RC; simp only [HQ.out, HM.out])
                have RO : Hid (ROk wr r) := (show ROk _ _ from ⟨by rw [Hr.out]; unfold rv; simp only [HQ.out]; exact SW.out.rs.rd, by rw [Hr.out]; unfold wv; simp only [HM.out]; exact SW.out.ws.rd⟩)
                have HDD : Hid (∃ d, pD l = some (d, []) ∧ pdR r = d) := (show ∃ d, _ from by
                  have h1 := HPP.out.1
                  rw [← E5.out] at h1
                  cases hp : pD l with
                  | none => rw [aft_no hp] at h1; cases h1
                  | some x9 =>
                    obtain ⟨d, z⟩ := x9
                    rw [aft_some hp] at h1
                    have hz9 := Option.some.inj h1
                    subst hz9
                    obtain ⟨rs, ws, z1, z2, g1, g2, g3⟩ := HPP.out.2 d [] (by simp [hp])
                    refine ⟨d, rfl, ?_⟩
                    rw [Hr.out, g3]
                    unfold pdR
                    simp only [Int.toNat_natCast, EL.out rs z1 g1, EM.out ws z2 g2])
                have HA4 : Hid (0 ≤ r.ses ∧ 0 ≤ r.snap) := (show _ ∧ _ from by rw [Hr.out]; exact ⟨Int.natCast_nonneg _, Int.natCast_nonneg _⟩)
                have HGS : Hid (goodR r = soundP r) := (show _ = _ by
                  obtain ⟨d, h3, h4⟩ := HDD.out
                  have h5 := (pD_ok h3).1
                  rw [List.append_nil] at h5
                  unfold goodR
                  rw [h4, ← h5, decide_eq_true (show l.length ≤ 8192 by rw [Hn0.out]; omega), Bool.and_true])
                have CG := hide (kgood_any RO.out)
                rw [HGS.out] at CG
                obtain ⟨sd, Hsd⟩ : ∃ z, Hid (soundP r = z) := ⟨_, rfl⟩
                rw [Hsd.out] at CG
                have BR : Hid (Blk wr R 27 (RC r)) := (show Blk _ _ _ _ by rw [HRC.out]; exact SW.out.rr)
                have rk := BR.out.range0
                go_wp2_with (first
                  | (refine wpList_load_mid rfl 27 _ rfl R 0 rfl (RC r) _ rk Try.underlying27 rfl Try.size27 ?_)
                  | (refine wpList_load_w9 rfl 27 _ rfl R 0 rfl (RC r) _ rk Try.underlying27 rfl Try.size27 ?_)
                  | fail)
                refine CG.out.mono ?_
                rintro e w9 ⟨rfl, hb9⟩
                have BN9 := hide (BN.out.kept hb9)
                have LB9 : Hid (∀ w8, But N w9 w8 → Below w.heap.size w w8) := (show ∀ w8, _ from fun w8 h8 => (SW.out.tk.base.trans (hb9.mono SW.out.tk.base.size)).trans (h8.below (by rw [HN.out]; omega) (Nat.le_trans SW.out.tk.base.size hb9.size)))
                have rk9 := (BR.out.kept hb9).range0
                have HB9 := hide hb9
                clear hb9 CG rk d0 d1
                cases sd with
                | false =>
                  have HZ9 : Hid (∀ W, RdPost l (.returned (.tuple #[.agg (RC zr).toArray, .int .i64 4])) W) := (show ∀ W, _ from fun W => ⟨zr, 4, rfl, zr_ok W, .inr ⟨rfl, rfl, fun r2 h1 h2 => by
                    obtain ⟨d, h3, h4⟩ := HDD.out
                    rw [read_all h1 h2] at h3
                    have h5 : pdR r2 = d := (Prod.mk.inj (Option.some.inj h3)).1
                    have h6 := sound_pd (h4.trans h5.symm) HA4.out.1 HA4.out.2 h1
                    rw [Hsd.out] at h6
                    cases h6⟩⟩)
                  go_wp2_with (first
                    | (refine wpList_store_blk rfl 27 (.tmp 2) (.tmp 124) rfl N (RC zr) (RC zr) 27 rfl rfl BN9.out rfl Try.size27 (RC_one zr) ?_; intro w8 hb8 hu8)
                    | fail)
                  refine bodyPost_ret (results_re rfl _ _ N zr 4 rfl rfl hb8) rfl ⟨HZ9.out _, LB9.out w8 hu8⟩
                | true =>
                  have HF : Hid (soundP r = true ∧ eD (pdR r) = l ∧ l.length ≤ 8192) := (show _ ∧ _ ∧ _ from by
                    obtain ⟨d, h3, h4⟩ := HDD.out
                    have h5 := (pD_ok h3).1
                    rw [List.append_nil] at h5
                    exact ⟨Hsd.out, by rw [h4]; exact h5.symm, by rw [Hn0.out]; omega⟩)
                  go_wp2_with (first
                    | (refine wpList_load_mid rfl 27 _ rfl R 0 rfl (RC r) _ rk9 Try.underlying27 rfl Try.size27 ?_)
                    | (refine wpList_store_blk rfl 27 (.tmp 2) (.tmp 125) rfl N (RC zr) (RC r) 27 rfl rfl BN9.out rfl Try.size27 (RC_one r) ?_; intro w8 hb8 hu8)
                    | fail)
                  have C8 : Chg (fun k => k = N) w9 w8 := Chg.of_but hu8 rfl
                  have S9 : RdS w w9 N D R a b c (some []) (.slice pa q cc) (.slice pw qw cw) L M := SW.out.below SW.out.low HB9.out
                  have RO8 : ROk w8 r := by
                    have hT : ∀ {E : Nat} {α : Type} {G : Enc α} {T : TypeId} {vv : Value} {LL : List α}, OwnG G w9 E T vv LL → T ≠ 27 → OwnG G w8 E T vv LL := fun ho hT => ho.chg C8 fun k hk e => by
                      obtain ⟨_, _, cu, h5⟩ := ho.block hk
                      exact cells_ne h5 BN9.out hT e
                    refine ⟨⟨?_, fun y hy => ?_⟩, ?_⟩
                    · rw [Hr.out]; unfold rv; simp only [HQ.out]; exact (hT S9.rs.row (by decide)).rd
                    · rw [Hr.out] at hy; exact (hT (S9.rs.ps y hy) (by decide)).rd
                    · rw [Hr.out]; unfold wv; simp only [HM.out]; exact (hT S9.ws (by decide)).rd
                  refine bodyPost_ret (results_re rfl _ _ N r 0 rfl rfl hb8) rfl ⟨⟨r, 0, rfl, RO8, .inl ⟨rfl, HF.out⟩⟩, LB9.out w8 hu8⟩
            · have hjI : (0 : Int) < (j : Int) := by omega
              cases si with
              | none =>
                have dbad : wr.cell? ⟨D, 1, none⟩ = some (.bool true) := dbad
                have E5 : Hid ((none : Option (List UInt8)) = s5) := (show _ = _ from GW.out.lost.1.trans Hs5.out)
                have PE : Hid (∀ r2, soundP r2 = true → eD (pdR r2) = l → s5 = some []) := (show ∀ r2, _ from fun r2 h1 h2 => by
                  rw [← HPP.out.1]
                  exact aft_some (read_all h1 h2))
                have PZ : Hid (s5 ≠ some [] → ∀ W, RdPost l (.returned (.tuple #[.agg (RC zr).toArray, .int .i64 4])) W) := (show _ → ∀ W, _ from fun hs W => ⟨zr, 4, rfl, zr_ok W, .inr ⟨rfl, rfl, fun r2 h1 h2 => absurd (PE.out r2 h1 h2) hs⟩⟩)
                have LB : Hid (∀ w8, But N wr w8 → Below w.heap.size w w8) := (show ∀ w8, _ from fun w8 h8 => SW.out.tk.base.trans (h8.below (by rw [HN.out]; omega) SW.out.tk.base.size))
                have BN := hide SW.out.rn
                obtain ⟨vt, lt, hbt9, hrt9, hlt9, hst9⟩ := SW.out.tk.b
                obtain ⟨at9, ct9, rfl⟩ := hrt9.slice
                have d1 := hbt9.cell (j := 1) rfl
                have d0 := hbt9.cell (j := 0) rfl
                have HS9 : Hid (s5 ≠ some []) := (show _ from by rw [← E5.out]; exact fun h => by cases h)
                have d1 : wr.cell? ⟨D, 1, none⟩ = some (.bool true) := d1
                clear hbt9 hrt9 hlt9 hst9
                go_wp2_with (first
                  | (refine wpList_store_blk rfl 27 (.tmp 2) (.tmp 124) rfl N (RC zr) (RC zr) 27 rfl rfl BN.out rfl Try.size27 (RC_one zr) ?_; intro w8 hb8 hu8)
                  | fail)
                refine bodyPost_ret (results_re rfl _ _ N zr 4 rfl rfl hb8) rfl ⟨PZ.out HS9.out _, LB.out w8 hu8⟩
              | some lw =>
                have dbad : wr.cell? ⟨D, 1, none⟩ = some (.bool false) := dbad
                obtain ⟨m, rfl⟩ : ∃ m, j = m + 1 := ⟨j - 1, by omega⟩
                obtain ⟨W, HWr⟩ : ∃ z, Hid (wr.heap.size = z) := ⟨_, rfl⟩
                have LW := hide SW.out.low
                rw [HWr.out] at LW
                obtain ⟨k, Hk⟩ : ∃ z, Hid (got (pS 64) em (some lw) = z) := ⟨_, rfl⟩
                obtain ⟨x1, Hx1⟩ : ∃ z, Hid (aft (pS 64) (some lw) = z) := ⟨_, rfl⟩
                obtain ⟨d, Hd⟩ : ∃ z, Hid (got pF false x1 = z) := ⟨_, rfl⟩
                obtain ⟨x2, Hx2⟩ : ∃ z, Hid (aft pF x1 = z) := ⟨_, rfl⟩
                have HWP := hide (pW_parts Hk.out Hx1.out Hd.out Hx2.out)
                have C1 := hide (kstr_any SW.out.tk 64 (by decide))
                rw [Hk.out, Hx1.out] at C1
                go_wp2_with fail
                refine C1.out.mono ?_
                rintro e w10 ⟨rfl, y10, c10⟩
                have S10 := hide (SW.out.took y10 c10)
                have Z10 : Hid (W ≤ w10.heap.size) := (show _ ≤ _ by have := c10.size; have := HWr.out; omega)
                have C2 := hide (kflag_any S10.out.tk)
                rw [Hd.out, Hx2.out] at C2
                clear y10 c10 C1 dbad
                go_wp2_with fail
                refine C2.out.mono ?_
                rintro e w11 ⟨rfl, y11, c11⟩
                have S11 := hide (S10.out.took y11 c11)
                have Z11 : Hid (W ≤ w11.heap.size) := (show _ ≤ _ by have := c11.size; have := Z10.out; omega)
                clear y11 c11 C2 S10 Z10
                obtain ⟨X, HX⟩ : ∃ z, Hid (w11.heap.size = z) := ⟨_, rfl⟩
                obtain ⟨w12, hw12⟩ : ∃ y, y = w11.alloc (.cells (PC (k, em, d)).toArray 41 (0, 0)) := ⟨_, rfl⟩
                obtain ⟨b12, l12⟩ := newB HX hw12
                have HW12 := hide hw12
                have S12 := hide (S11.out.below S11.out.low l12.out)
                have hWX : W ≤ X := by rw [← HX.out]; exact Z11.out
                have Z12 : Hid (W ≤ w12.heap.size) := (show _ ≤ _ by have := l12.out.size; have := Z11.out; omega)
                clear hw12 S11
                go_upto_region 20 with (first
                  | (refine wpList_store_new rfl 41 _ _ rfl w11 _ (PC (k, em, d)).toArray _ rfl rfl rfl Try.size41 rfl (all_one (PC_one (k, em, d))) ?_; rw [← HW12.out, HX.out])
                  | fail)
                try simp only [Act.put]
                try (rw [show w11.alloc (.cells (PC (k, em, d)).toArray 41 (0, 0)) = w12 from HW12.out.symm, HX.out])
                have e2 := b12.out.cell (j := 2) rfl
                cases d with
                | true =>
                  have HXX : Hid (aft (pT (!true) 256) x2 = x2) := (show _ = _ by cases x2 <;> rfl)
                  have HGV : Hid (got (pT (!true) 256) em x2 = em) := (show _ = _ by cases x2 <;> rfl)
                  obtain ⟨x3, Hx3⟩ : ∃ z, Hid (x2 = z) := ⟨_, rfl⟩
                  have S13 : Hid (RdS w w12 N D R a b c x3 (.slice pa q cc) (.slice pw qw cw) L M) := (show RdS _ _ _ _ _ _ _ _ _ _ _ _ _ by rw [← Hx3.out]; exact S12.out)
                  have HPR : Hid (x3 = aft pW (some lw) ∧ ∀ y z, (some lw).bind pW = some (y, z) → (k, em, true) = y) := (show _ ∧ _ from ⟨by rw [HWP.out.1, HXX.out, Hx3.out], fun y z hy => by have h := HWP.out.2 y z hy; rw [HGV.out] at h; exact h⟩)
                  have GN : Hid (Lg pW 64 s4 m x3 (M ++ [(k, em, true)])) := (show Lg _ _ _ _ _ _ by rw [HPR.out.1]; exact GW.out.next HPR.out.2)
                  obtain ⟨p9_, Hp9⟩ : ∃ z : Pr, Hid (z = (k, em, true)) := ⟨_, rfl⟩
                  have BX : Hid (Blk w12 X 41 (PC p9_)) := (show Blk _ _ _ _ by rw [Hp9.out]; exact b12.out)
                  rw [← Hp9.out] at GN
                  have d4 := S13.out.rr.cell (j := 4) rfl
                  have rk := BX.out.range0
                  obtain ⟨w14, hw14⟩ : ∃ y, y = w12.alloc (.cells (PE.c p9_).toArray 41 (0, 0)) := ⟨_, rfl⟩
                  have l14 : Hid (Below w12.heap.size w12 w14) := (show Below _ _ _ by rw [hw14]; exact (Below.refl _ _).alloc (Nat.le_refl _) _)
                  have R14 : Hid (RdG PE w14 (.slice (some ⟨w12.heap.size, 0, none⟩) 1 1) [p9_]) := (show RdG _ _ _ _ by rw [hw14]; exact rdG_one (E := PE) w12 41 p9_)
                  have S14 := hide (S13.out.below S13.out.low l14.out)
                  have HL9 : Hid (M.length + [p9_].length ≤ 10000000) := (show _ ≤ _ by rw [List.length_singleton]; omega)
                  have HL8 : Hid (N ≤ w14.heap.size) := (show _ ≤ _ from Nat.le_of_lt S14.out.rn.lt)
                  have HW14 := hide hw14
                  clear hw14
                  go_wp2_with (first
                    | (refine wpList_load_mid rfl 41 _ rfl X 0 rfl (PC p9_) _ rk Try.underlying41 rfl Try.size41 ?_)
                    | (refine wpList_build1E (E := PE) build_pairs1 rfl _ rfl p9_ rfl ?_; change wpList _ _ _ _ _ (w12.alloc (.cells (PE.c p9_).toArray 41 (0, 0))); rw [← HW14.out])
                    | (refine wpList_append_E (E := PE) Try.underlying25 infoP9 (by decide) rfl (.tmp 102) (.tmp 104) rfl N (.slice pw qw cw) M rfl S14.out.ws (.slice (some ⟨w12.heap.size, 0, none⟩) 1 1) [p9_] rfl R14.out HL9.out HL8.out ?_; intro v9 w15 o9 g9 q9; obtain ⟨a9, c9, hv9⟩ := o9.form; have hn9 : (M ++ [p9_]).length = qw + 1 := (by rw [List.length_append, List.length_singleton, HM.out]); rw [hn9] at hv9; subst hv9; have K15 : Chg (fun b => (Value.slice pw qw cw).ownBlock = some b) w14 w15 := Chg.of_grown g9 (fun k e _ => e); have hE := hide (S14.out.wrow K15); have AP := hide (S14.out.apN q9); have O9 := hide o9; have HN9 := hide hn9; clear o9 g9 q9 hn9 K15)
                    | (refine wpList_store_sl rfl 25 szs _ _ rfl R 4 27 _ _ _ _ rfl rfl hE.out.2 (show 4 < 5 by decide) ?_; intro w16 hb16 hu16)
                    | fail)
                  have S16 : Hid (RdS w w16 N D R a b c x3 (.slice pa q cc) (.slice a9 (qw + 1) c9) L (M ++ [p9_])) := (show RdS _ _ _ _ _ _ _ _ _ _ _ _ _ from by
                    have C16 : Chg (fun k => k = R) w15 w16 := Chg.of_but hu16 rfl
                    exact hE.out.1.store O9.out AP.out hE.out.2 C16 hb16)
                  clear hb16 hu16 O9 AP hE
                  have hw64 : wrap64 (((m + 1 : Nat) : Int) - 1) = (m : Int) := by unfold wrap64; omega
                  go_wp2_with fail
                  go_roundg (m + 1)
                  case measure => omega
                  case rel => exact ⟨m, qw + 1, c9, a9, M ++ [p9_], x3, rfl, by go_num, by rw [HN9.out]; have := HM.out; omega, HN9, S16, GN⟩
                | false =>
                  obtain ⟨vv, Hvv⟩ : ∃ z, Hid (got (pS 256) em x2 = z) := ⟨_, rfl⟩
                  have C3 := hide (kstr_any S12.out.tk 256 (by decide))
                  rw [Hvv.out] at C3
                  go_wp2_with fail
                  refine C3.out.mono ?_
                  rintro e w13 ⟨rfl, y13, c13⟩
                  have S13a := hide (S12.out.took y13 c13)
                  have B13 := hide (b12.out.chg c13 (S12.out.tk.neT b12.out (by decide)))
                  have Z13 : Hid (W ≤ w13.heap.size) := (show _ ≤ _ by have := c13.size; have := Z12.out; omega)
                  have hcl : 1 < (PC (k, em, false)).length := (show 1 < 3 by decide)
                  clear y13 c13 C3 e2
                  go_upto_region 22 with (first
                    | (refine wpList_store_st rfl 9 szst _ _ rfl X 1 41 (PC (k, em, false)) _ rfl rfl B13.out hcl ?_; intro w17 hb17 hu17)
                    | fail)
                  try simp only [Act.put]
                  have B17 : Hid (Blk w17 X 41 (PC (k, vv, false))) := (show Blk _ _ _ _ from hb17)
                  have S17 := hide (S13a.out.below (W := W) LW.out (hu17.below hWX Z13.out))
                  have HXX : Hid (aft (pT (!false) 256) x2 = aft (pS 256) x2) := (show _ = _ from rfl)
                  have HGV : Hid (got (pT (!false) 256) em x2 = vv) := (show _ = _ from Hvv.out)
                  clear hb17 hu17 S13a B13 Z13
                  obtain ⟨x3, Hx3⟩ : ∃ z, Hid (aft (pS 256) x2 = z) := ⟨_, rfl⟩
                  have S13 : Hid (RdS w w17 N D R a b c x3 (.slice pa q cc) (.slice pw qw cw) L M) := (show RdS _ _ _ _ _ _ _ _ _ _ _ _ _ by rw [← Hx3.out]; exact S17.out)
                  have HPR : Hid (x3 = aft pW (some lw) ∧ ∀ y z, (some lw).bind pW = some (y, z) → (k, vv, false) = y) := (show _ ∧ _ from ⟨by rw [HWP.out.1, HXX.out, Hx3.out], fun y z hy => by have h := HWP.out.2 y z hy; rw [HGV.out] at h; exact h⟩)
                  have GN : Hid (Lg pW 64 s4 m x3 (M ++ [(k, vv, false)])) := (show Lg _ _ _ _ _ _ by rw [HPR.out.1]; exact GW.out.next HPR.out.2)
                  obtain ⟨p9_, Hp9⟩ : ∃ z : Pr, Hid (z = (k, vv, false)) := ⟨_, rfl⟩
                  have BX : Hid (Blk w17 X 41 (PC p9_)) := (show Blk _ _ _ _ by rw [Hp9.out]; exact B17.out)
                  rw [← Hp9.out] at GN
                  have d4 := S13.out.rr.cell (j := 4) rfl
                  have rk := BX.out.range0
                  obtain ⟨w14, hw14⟩ : ∃ y, y = w17.alloc (.cells (PE.c p9_).toArray 41 (0, 0)) := ⟨_, rfl⟩
                  have l14 : Hid (Below w17.heap.size w17 w14) := (show Below _ _ _ by rw [hw14]; exact (Below.refl _ _).alloc (Nat.le_refl _) _)
                  have R14 : Hid (RdG PE w14 (.slice (some ⟨w17.heap.size, 0, none⟩) 1 1) [p9_]) := (show RdG _ _ _ _ by rw [hw14]; exact rdG_one (E := PE) w17 41 p9_)
                  have S14 := hide (S13.out.below S13.out.low l14.out)
                  have HL9 : Hid (M.length + [p9_].length ≤ 10000000) := (show _ ≤ _ by rw [List.length_singleton]; omega)
                  have HL8 : Hid (N ≤ w14.heap.size) := (show _ ≤ _ from Nat.le_of_lt S14.out.rn.lt)
                  have HW14 := hide hw14
                  clear hw14
                  go_wp2_with (first
                    | (refine wpList_load_mid rfl 41 _ rfl X 0 rfl (PC p9_) _ rk Try.underlying41 rfl Try.size41 ?_)
                    | (refine wpList_build1E (E := PE) build_pairs1 rfl _ rfl p9_ rfl ?_; change wpList _ _ _ _ _ (w17.alloc (.cells (PE.c p9_).toArray 41 (0, 0))); rw [← HW14.out])
                    | (refine wpList_append_E (E := PE) Try.underlying25 infoP9 (by decide) rfl (.tmp 102) (.tmp 104) rfl N (.slice pw qw cw) M rfl S14.out.ws (.slice (some ⟨w17.heap.size, 0, none⟩) 1 1) [p9_] rfl R14.out HL9.out HL8.out ?_; intro v9 w15 o9 g9 q9; obtain ⟨a9, c9, hv9⟩ := o9.form; have hn9 : (M ++ [p9_]).length = qw + 1 := (by rw [List.length_append, List.length_singleton, HM.out]); rw [hn9] at hv9; subst hv9; have K15 : Chg (fun b => (Value.slice pw qw cw).ownBlock = some b) w14 w15 := Chg.of_grown g9 (fun k e _ => e); have hE := hide (S14.out.wrow K15); have AP := hide (S14.out.apN q9); have O9 := hide o9; have HN9 := hide hn9; clear o9 g9 q9 hn9 K15)
                    | (refine wpList_store_sl rfl 25 szs _ _ rfl R 4 27 _ _ _ _ rfl rfl hE.out.2 (show 4 < 5 by decide) ?_; intro w16 hb16 hu16)
                    | fail)
                  have S16 : Hid (RdS w w16 N D R a b c x3 (.slice pa q cc) (.slice a9 (qw + 1) c9) L (M ++ [p9_])) := (show RdS _ _ _ _ _ _ _ _ _ _ _ _ _ from by
                    have C16 : Chg (fun k => k = R) w15 w16 := Chg.of_but hu16 rfl
                    exact hE.out.1.store O9.out AP.out hE.out.2 C16 hb16)
                  clear hb16 hu16 O9 AP hE
                  have hw64 : wrap64 (((m + 1 : Nat) : Int) - 1) = (m : Int) := by unfold wrap64; omega
                  go_wp2_with fail
                  go_roundg (m + 1)
                  case measure => omega
                  case rel => exact ⟨m, qw + 1, c9, a9, M ++ [p9_], x3, rfl, by go_num, by rw [HN9.out]; have := HM.out; omega, HN9, S16, GN⟩
        | some lr =>
          have dbad : wr.cell? ⟨D, 1, none⟩ = some (.bool false) := dbad
          obtain ⟨m, rfl⟩ : ∃ m, j = m + 1 := ⟨j - 1, by omega⟩
          obtain ⟨W, HWr⟩ : ∃ z, Hid (wr.heap.size = z) := ⟨_, rfl⟩
          have LW := hide SR.out.low
          rw [HWr.out] at LW
          obtain ⟨f, Hf⟩ : ∃ z, Hid (got pF false (some lr) = z) := ⟨_, rfl⟩
          obtain ⟨x1, Hx1⟩ : ∃ z, Hid (aft pF (some lr) = z) := ⟨_, rfl⟩
          obtain ⟨k, Hk⟩ : ∃ z, Hid (got (pS 64) em x1 = z) := ⟨_, rfl⟩
          obtain ⟨x2, Hx2⟩ : ∃ z, Hid (aft (pS 64) x1 = z) := ⟨_, rfl⟩
          have HRP := hide (pR_parts Hf.out Hx1.out Hk.out Hx2.out)
          have C1 := hide (kflag_any SR.out.tk)
          rw [Hf.out, Hx1.out] at C1
          go_wp2_with fail
          refine C1.out.mono ?_
          rintro e w10 ⟨rfl, y10, c10⟩
          have S10 := hide (SR.out.took y10 c10)
          have Z10 : Hid (W ≤ w10.heap.size) := (show _ ≤ _ by have := c10.size; have := HWr.out; omega)
          have C2 := hide (kstr_any S10.out.tk 64 (by decide))
          rw [Hk.out, Hx2.out] at C2
          clear y10 c10 C1 dbad
          go_wp2_with fail
          refine C2.out.mono ?_
          rintro e w11 ⟨rfl, y11, c11⟩
          have S11 := hide (S10.out.took y11 c11)
          have Z11 : Hid (W ≤ w11.heap.size) := (show _ ≤ _ by have := c11.size; have := Z10.out; omega)
          clear y11 c11 C2 S10 Z10
          obtain ⟨X, HX⟩ : ∃ z, Hid (w11.heap.size = z) := ⟨_, rfl⟩
          obtain ⟨w12, hw12⟩ : ∃ y, y = w11.alloc (.cells #[.bool f, .string k, .string ⟨#[]⟩, .slice none 0 0] 39 (0, 0)) := ⟨_, rfl⟩
          obtain ⟨b12, l12⟩ := newB (A := [.bool f, .string k, .string ⟨#[]⟩, .slice none 0 0]) HX hw12
          have HW12 := hide hw12
          have S12 := hide (S11.out.below S11.out.low l12.out)
          have hWX : W ≤ X := by rw [← HX.out]; exact Z11.out
          have Z12 : Hid (W ≤ w12.heap.size) := (show _ ≤ _ by have := l12.out.size; have := Z11.out; omega)
          have V12 : Hid (XS w12 W X f k em (.slice none 0 0) []) := (show XS _ _ _ _ _ _ _ _ from ⟨b12.out, ownG_nil _ _ _, hWX⟩)
          clear hw12 S11 b12
          go_upto_region 9 with (first
            | (refine wpList_store_new rfl 39 _ _ rfl w11 _ #[.bool f, .string k, .string ⟨#[]⟩, .slice none 0 0] _ rfl rfl rfl Try.size39 rfl (all_one (XC_one ⟨f, k, em, [], none, 0⟩)) ?_; rw [← HW12.out, HX.out])
            | fail)
          try simp only [Act.put]
          try (rw [show w11.alloc (.cells #[.bool f, .string k, .string ⟨#[]⟩, .slice none 0 0] 39 (0, 0)) = w12 from HW12.out.symm, HX.out])
          have e0 := V12.out.x.cell (j := 0) rfl
          cases f with
          | true =>
            obtain ⟨tt, Htt⟩ : ∃ z, Hid (got (pS 64) em x2 = z) := ⟨_, rfl⟩
            have C3 := hide (kstr_any S12.out.tk 64 (by decide))
            rw [Htt.out] at C3
            go_wp2_with fail
            refine C3.out.mono ?_
            rintro e w13 ⟨rfl, y13, c13⟩
            have S13a := hide (S12.out.took y13 c13)
            have V13 := hide (V12.out.took S12.out.tk c13)
            have Z13 : Hid (W ≤ w13.heap.size) := (show _ ≤ _ by have := c13.size; have := Z12.out; omega)
            clear y13 c13 C3 e0
            go_upto_region 11 with (first
              | (refine wpList_store_st rfl 9 szst _ _ rfl X 2 39 _ _ rfl rfl V13.out.x (show 2 < 4 by decide) ?_; intro w17 hb17 hu17)
              | fail)
            try simp only [Act.put]
            have S17 := hide (S13a.out.below (W := W) LW.out (hu17.below hWX Z13.out))
            have V17 : Hid (XS w17 W X true k tt (.slice none 0 0) []) := (show XS _ _ _ _ _ _ _ _ from ⟨hb17, ownG_nil _ _ _, hWX⟩)
            have Z17 : Hid (W ≤ w17.heap.size) := (show _ ≤ _ by have := hu17.size; have := Z13.out; omega)
            clear hb17 hu17 S13a V13 Z13 S12 V12 Z12
            obtain ⟨x3, Hx3⟩ : ∃ z, Hid (aft (pS 64) x2 = z) := ⟨_, rfl⟩
            have SX : Hid (RdS w w17 N D R a b c x3 (.slice pa q cc) (.slice none 0 0) L []) := (show RdS _ _ _ _ _ _ _ _ _ _ _ _ _ by rw [← Hx3.out]; exact S17.out)
            have HTT : Hid (got (pT true 64) em x2 = tt) := (show _ = _ from Htt.out)
            have HX3 : Hid (aft (pT true 64) x2 = x3) := (show _ = _ by rw [← Hx3.out]; first | rfl | (cases x2 <;> rfl))
            have HRQ : Hid (aft pR (some lr) = aft (pL 200 pP) x3 ∧ ∀ y z, (some lr).bind pR = some (y, z) → ∃ ps, x3.bind (pL 200 pP) = some (ps, z) ∧ y = (true, k, tt, ps)) := (show _ ∧ _ from by
              have h := HRP.out
              rw [HX3.out, HTT.out] at h
              exact h)
            have C4 := hide (knum_any SX.out.tk 200 (by decide))
            have GTP := hide (Lg.start pP 200 x3)
            obtain ⟨np, Hnp⟩ : ∃ z, Hid (got (pN 200) 0 x3 = z) := ⟨_, rfl⟩
            obtain ⟨t4, Ht4⟩ : ∃ z, Hid (aft (pN 200) x3 = z) := ⟨_, rfl⟩
            have hnp : np ≤ 200 := by rw [← Hnp.out]; exact got_le 200 x3
            rw [Hnp.out, Ht4.out] at GTP C4
            go_wp2_with fail
            refine C4.out.mono ?_
            rintro e w18 ⟨rfl, y18, c18⟩
            have SP0 := hide (SX.out.took y18 c18)
            have VP0 := hide (V17.out.took SX.out.tk c18)
            have ZP0 : Hid (W ≤ w18.heap.size) := (show _ ≤ _ by have := c18.size; have := Z17.out; omega)
            have GP0 : Hid (Lg pP 200 x3 np t4 ([] : List Pr)) := (show Lg _ _ _ _ _ _ from GTP.out)
            clear y18 c18 C4 GTP SX S17 V17 Z17 HX3 HTT
            go_wp2_with fail
            go_loopg [8] (np + 1) (fun g z wr => ∃ (i qp cp : Nat) (pp : Option Addr) (ps : List Pr) (sp : Option (List UInt8)), g = i + 1 ∧ z = .int .i64 (i : Int) ∧ ps.length + i ≤ 200 ∧ Hid (ps.length = qp) ∧ Hid (RdS w wr N D R a b c sp (.slice pa q cc) (.slice none 0 0) L []) ∧ Hid (XS wr W X true k tt (.slice pp qp cp) ps) ∧ Hid (W ≤ wr.heap.size) ∧ Hid (Lg pP 200 x3 i sp ps))
            case atStart => exact ⟨np, 0, 0, none, [], t4, rfl, rfl, (by simpa using hnp), rfl, SP0, VP0, ZP0, GP0⟩
            case round =>
              clear SP0 VP0 ZP0 GP0 SR
              obtain ⟨i, qp, cp, pp, ps, sp, rfl, rfl, hpi, HP, SP, VP, ZP, GP⟩ := hrel
              obtain ⟨vt, lt, hbt9, hrt9, hlt9, hst9⟩ := SP.out.tk.b
              have dbad := hbt9.cell (j := 1) rfl
              clear hbt9 hrt9 hlt9 hst9
              rcases Nat.eq_zero_or_pos i with hi0 | hip
              · subst hi0
                have q9 : decide ((0 : Int) < ((0 : Nat) : Int)) = false := by decide
                clear dbad
                go_upto_region 15 with fail
                try simp only [Act.put]
                have EP : Hid (sp = aft pR (some lr) ∧ ∀ y z, (some lr).bind pR = some (y, z) → plR ⟨true, k, tt, ps, pp, cp⟩ = y) := (show _ ∧ _ from ⟨by rw [HRQ.out.1]; exact GP.out.done.1, fun y z hy => by
                  obtain ⟨ps9, g1, g2⟩ := HRQ.out.2 y z hy
                  rw [g2, ← GP.out.done.2 ps9 z g1]
                  rfl⟩)
                obtain ⟨x, Hx⟩ : ∃ x : Rz, Hid (x = ⟨true, k, tt, ps, pp, cp⟩) := ⟨_, rfl⟩
                have GN : Hid (Lg pR 64 s3 m sp ((L ++ [x]).map plR)) := (show Lg _ _ _ _ _ _ by rw [List.map_append, List.map_singleton, Hx.out, EP.out.1]; exact GR.out.next EP.out.2)
                have BX : Hid (Blk wr X 39 (XC x)) := (show Blk _ _ _ _ by rw [Hx.out]; unfold XC; simp only [HP.out]; exact VP.out.x)
                have XO : Hid (OwnG PE wr N 41 (xv x) x.ps) := (show OwnG _ _ _ _ _ _ by rw [Hx.out]; unfold xv; simp only [HP.out]; exact VP.out.row.mono (by have := LW.out.2.2.1; omega))
                clear EP GP VP
                have d3 := SP.out.rr.cell (j := 3) rfl
                have rk := BX.out.range0
                obtain ⟨w14, hw14⟩ : ∃ y, y = wr.alloc (.cells (XE.c x).toArray 39 (0, 0)) := ⟨_, rfl⟩
                have l14 : Hid (Below wr.heap.size wr w14) := (show Below _ _ _ by rw [hw14]; exact (Below.refl _ _).alloc (Nat.le_refl _) _)
                have R14 : Hid (RdG XE w14 (.slice (some ⟨wr.heap.size, 0, none⟩) 1 1) [x]) := (show RdG _ _ _ _ by rw [hw14]; exact rdG_one (E := XE) wr 39 x)
                have S14 := hide (SP.out.below SP.out.low l14.out)
                have XO14 := hide (XO.out.kept l14.out)
                have HL9 : Hid (L.length + [x].length ≤ 10000000) := (show _ ≤ _ by rw [List.length_singleton]; omega)
                have HL8 : Hid (N ≤ w14.heap.size) := (show _ ≤ _ from Nat.le_of_lt S14.out.rn.lt)
                have HW14 := hide hw14
                clear hw14 XO SP
                go_wp2_with (first
                  | (refine wpList_load_mid rfl 39 _ rfl X 0 rfl (XC x) _ rk Try.underlying39 rfl Try.size39 ?_)
                  | (refine wpList_build1E (E := XE) build_read1 rfl _ rfl x rfl ?_; change wpList _ _ _ _ _ (wr.alloc (.cells (XE.c x).toArray 39 (0, 0))); rw [← HW14.out])
                  | (refine wpList_append_E (E := XE) Try.underlying24 infoX (by decide) rfl (.tmp 72) (.tmp 74) rfl N (.slice pa q cc) L rfl S14.out.rs.row (.slice (some ⟨wr.heap.size, 0, none⟩) 1 1) [x] rfl R14.out HL9.out HL8.out ?_; intro v9 w15 o9 g9 q9; obtain ⟨a9, c9, hv9⟩ := o9.form; have hn9 : (L ++ [x]).length = q + 1 := (by rw [List.length_append, List.length_singleton, HQ.out]); rw [hn9] at hv9; subst hv9; have K15 : Chg (fun b => (Value.slice pa q cc).ownBlock = some b) w14 w15 := Chg.of_grown g9 (fun k e _ => e); have hE := hide (S14.out.rrow K15 o9 XO14.out); have HN9 := hide hn9; clear o9 g9 q9 hn9 K15)
                  | (refine wpList_store_sl rfl 24 szrs _ _ rfl R 3 27 _ _ _ _ rfl rfl hE.out.2 (show 3 < 5 by decide) ?_; intro w16 hb16 hu16)
                  | fail)
                have S16 : Hid (RdS w w16 N D R a b c sp (.slice a9 (q + 1) c9) (.slice none 0 0) (L ++ [x]) []) := (show RdS _ _ _ _ _ _ _ _ _ _ _ _ _ from by
                  have C16 : Chg (fun k => k = R) w15 w16 := Chg.of_but hu16 rfl
                  exact hE.out.1.store (ownG_nil _ _ _) (fun _ _ _ _ e => by cases e) hE.out.2 C16 hb16)
                clear hb16 hu16 hE
                have hw64 : wrap64 (((m + 1 : Nat) : Int) - 1) = (m : Int) := by unfold wrap64; omega
                go_wp2_with fail
                go_roundg (m + 1)
                case measure => omega
                case rel => exact ⟨m, q + 1, c9, a9, L ++ [x], sp, rfl, by go_num, by rw [HN9.out]; have := HQ.out; omega, HN9, S16, GN⟩
              · have hiI : (0 : Int) < (i : Int) := by omega
                cases sp with
                | none =>
                  have dbad : wr.cell? ⟨D, 1, none⟩ = some (.bool true) := dbad
                  go_upto_region 15 with fail
                  try simp only [Act.put]
                  clear dbad
                  have EP : Hid ((none : Option (List UInt8)) = aft pR (some lr) ∧ ∀ y z, (some lr).bind pR = some (y, z) → plR ⟨true, k, tt, ps, pp, cp⟩ = y) := (show _ ∧ _ from ⟨by rw [HRQ.out.1]; exact GP.out.lost.1, fun y z hy => by
                    obtain ⟨ps9, g1, g2⟩ := HRQ.out.2 y z hy
                    rw [g2, ← GP.out.lost.2 ps9 z g1]
                    rfl⟩)
                  obtain ⟨x, Hx⟩ : ∃ x : Rz, Hid (x = ⟨true, k, tt, ps, pp, cp⟩) := ⟨_, rfl⟩
                  have GN : Hid (Lg pR 64 s3 m none ((L ++ [x]).map plR)) := (show Lg _ _ _ _ _ _ by rw [List.map_append, List.map_singleton, Hx.out, EP.out.1]; exact GR.out.next EP.out.2)
                  have BX : Hid (Blk wr X 39 (XC x)) := (show Blk _ _ _ _ by rw [Hx.out]; unfold XC; simp only [HP.out]; exact VP.out.x)
                  have XO : Hid (OwnG PE wr N 41 (xv x) x.ps) := (show OwnG _ _ _ _ _ _ by rw [Hx.out]; unfold xv; simp only [HP.out]; exact VP.out.row.mono (by have := LW.out.2.2.1; omega))
                  clear EP GP VP
                  have d3 := SP.out.rr.cell (j := 3) rfl
                  have rk := BX.out.range0
                  obtain ⟨w14, hw14⟩ : ∃ y, y = wr.alloc (.cells (XE.c x).toArray 39 (0, 0)) := ⟨_, rfl⟩
                  have l14 : Hid (Below wr.heap.size wr w14) := (show Below _ _ _ by rw [hw14]; exact (Below.refl _ _).alloc (Nat.le_refl _) _)
                  have R14 : Hid (RdG XE w14 (.slice (some ⟨wr.heap.size, 0, none⟩) 1 1) [x]) := (show RdG _ _ _ _ by rw [hw14]; exact rdG_one (E := XE) wr 39 x)
                  have S14 := hide (SP.out.below SP.out.low l14.out)
                  have XO14 := hide (XO.out.kept l14.out)
                  have HL9 : Hid (L.length + [x].length ≤ 10000000) := (show _ ≤ _ by rw [List.length_singleton]; omega)
                  have HL8 : Hid (N ≤ w14.heap.size) := (show _ ≤ _ from Nat.le_of_lt S14.out.rn.lt)
                  have HW14 := hide hw14
                  clear hw14 XO SP
                  go_wp2_with (first
                    | (refine wpList_load_mid rfl 39 _ rfl X 0 rfl (XC x) _ rk Try.underlying39 rfl Try.size39 ?_)
                    | (refine wpList_build1E (E := XE) build_read1 rfl _ rfl x rfl ?_; change wpList _ _ _ _ _ (wr.alloc (.cells (XE.c x).toArray 39 (0, 0))); rw [← HW14.out])
                    | (refine wpList_append_E (E := XE) Try.underlying24 infoX (by decide) rfl (.tmp 72) (.tmp 74) rfl N (.slice pa q cc) L rfl S14.out.rs.row (.slice (some ⟨wr.heap.size, 0, none⟩) 1 1) [x] rfl R14.out HL9.out HL8.out ?_; intro v9 w15 o9 g9 q9; obtain ⟨a9, c9, hv9⟩ := o9.form; have hn9 : (L ++ [x]).length = q + 1 := (by rw [List.length_append, List.length_singleton, HQ.out]); rw [hn9] at hv9; subst hv9; have K15 : Chg (fun b => (Value.slice pa q cc).ownBlock = some b) w14 w15 := Chg.of_grown g9 (fun k e _ => e); have hE := hide (S14.out.rrow K15 o9 XO14.out); have HN9 := hide hn9; clear o9 g9 q9 hn9 K15)
                    | (refine wpList_store_sl rfl 24 szrs _ _ rfl R 3 27 _ _ _ _ rfl rfl hE.out.2 (show 3 < 5 by decide) ?_; intro w16 hb16 hu16)
                    | fail)
                  have S16 : Hid (RdS w w16 N D R a b c none (.slice a9 (q + 1) c9) (.slice none 0 0) (L ++ [x]) []) := (show RdS _ _ _ _ _ _ _ _ _ _ _ _ _ from by
                    have C16 : Chg (fun k => k = R) w15 w16 := Chg.of_but hu16 rfl
                    exact hE.out.1.store (ownG_nil _ _ _) (fun _ _ _ _ e => by cases e) hE.out.2 C16 hb16)
                  clear hb16 hu16 hE
                  have hw64 : wrap64 (((m + 1 : Nat) : Int) - 1) = (m : Int) := by unfold wrap64; omega
                  go_wp2_with fail
                  go_roundg (m + 1)
                  case measure => omega
                  case rel => exact ⟨m, q + 1, c9, a9, L ++ [x], none, rfl, by go_num, by rw [HN9.out]; have := HQ.out; omega, HN9, S16, GN⟩
                | some lp =>
                  have dbad : wr.cell? ⟨D, 1, none⟩ = some (.bool false) := dbad
                  obtain ⟨y, rfl⟩ : ∃ y, i = y + 1 := ⟨i - 1, by omega⟩
                  go_upto_region 14 with fail
                  try simp only [Act.put]
                  clear dbad
                  obtain ⟨pk, Hpk⟩ : ∃ z, Hid (got (pS 64) em (some lp) = z) := ⟨_, rfl⟩
                  obtain ⟨z1, Hz1⟩ : ∃ z, Hid (aft (pS 64) (some lp) = z) := ⟨_, rfl⟩
                  obtain ⟨pv, Hpv⟩ : ∃ z, Hid (got (pS 256) em z1 = z) := ⟨_, rfl⟩
                  obtain ⟨z2, Hz2⟩ : ∃ z, Hid (aft (pS 256) z1 = z) := ⟨_, rfl⟩
                  have HPq := hide (pP_parts Hpk.out Hz1.out Hpv.out Hz2.out)
                  obtain ⟨SB, HSB⟩ : ∃ f : Nat → Option (List UInt8), f = fun b => if b = 0 then some lp else if b = 1 then z1 else z2 := ⟨_, rfl⟩
                  have HB0 : SB 0 = some lp := by rw [HSB]; rfl
                  have HB1 : SB 1 = z1 := by rw [HSB]; rfl
                  have HB2 : SB 2 = z2 := by rw [HSB]; rfl
                  clear HSB
                  have CA : Hid (∀ W9, TkAt w W9 D (some lp) → Calls Try.prog 21 #[PT D, .int .i64 64] W9 fun e w' => e = .returned (.string pk) ∧ TkAt w w' D z1 ∧ Chg (fun k => k = D) W9 w') := (show ∀ W9, _ from fun W9 hW => by rw [← Hpk.out, ← Hz1.out]; exact kstr_any hW 64 (by decide))
                  have CB : Hid (∀ W9, TkAt w W9 D z1 → Calls Try.prog 21 #[PT D, .int .i64 256] W9 fun e w' => e = .returned (.string pv) ∧ TkAt w w' D z2 ∧ Chg (fun k => k = D) W9 w') := (show ∀ W9, _ from fun W9 hW => by rw [← Hpv.out, ← Hz2.out]; exact kstr_any hW 256 (by decide))
                  have hDW : D < W := LW.out.1
                  refine wp_region_chainR (R := Chg (fun k => k = D)) Try.mixed (KC (fun i_ => match i_ with | 0 => .val (.pointer (some ⟨X, 3, none⟩)) | 1 => .val (.slice pp qp cp) | 2 | 4 => .val (PT D) | 3 => .val (.string pk) | 5 => .val (.string pv) | 6 => .val (.agg (PC (pk, pv, false)).toArray) | 7 => .of (relChg _) (fun W9 x9 => ∃ g9, x9 = .slice (some ⟨g9, 0, none⟩) 1 1 ∧ OwnG PE W9 W 41 x9 [(pk, pv, false)]) (fun _ _ _ hr ⟨g9, e, h⟩ => ⟨g9, e, h.chg hr (fun k hk e => by have := (h.block hk).1; omega)⟩) | _ => .free)) (fun b_ w_ => TkAt w w_ D (SB b_) ∧ Chg (fun k => k = D) wr w_) [3, 5] 126 rfl (by decide +kernel) 8 (by decide) (by decide) (by decide) (by decide +kernel) (by decide +kernel) (KC_mono _) (KC_monoR (fun i_ h_ => (by split <;> first | rfl | exact absurd rfl h_))) (fun b_ w_ w_2 hg h => ⟨h.1.kept hg, h.2.trans (Chg.of_below hg)⟩) (⟨by rw [HB0]; exact SP.out.tk, Chg.refl _ _⟩) ?_ ?_
                  · refine AllFrom.cons ⟨rfl, fun _ a' b' w' hC hk hd Q => ?_, fun j_ hj_ => (pvR_no (by decide) j_ hj_).elim⟩ (AllFrom.cons ⟨rfl, fun _ a' b' w' hC hk hd Q => ?_, fun j_ hj_ => (pvR_no (by decide) j_ hj_).elim⟩ (AllFrom.cons ⟨rfl, fun _ a' b' w' hC hk hd Q => ?_, fun j_ hj_ => (pvR_no (by decide) j_ hj_).elim⟩ (AllFrom.cons ⟨rfl, fun h => absurd (by decide) h, fun j_ hj_ a' w' hC hk hd Q => ?_⟩ (AllFrom.cons ⟨rfl, fun _ a' b' w' hC hk hd Q => ?_, fun j_ hj_ => (pvR_no (by decide) j_ hj_).elim⟩ (AllFrom.cons ⟨rfl, fun h => absurd (by decide) h, fun j_ hj_ a' w' hC hk hd Q => ?_⟩ (AllFrom.cons ⟨rfl, fun _ a' b' w' hC hk hd Q => ?_, fun j_ hj_ => (pvR_no (by decide) j_ hj_).elim⟩ (AllFrom.cons ⟨rfl, fun _ a' b' w' hC hk hd Q => ?_, fun j_ hj_ => (pvR_no (by decide) j_ hj_).elim⟩ AllFrom.nil)))))))
                    · skip
                      have e7 : a'.eval (.tmp 7) = .pointer (some ⟨X, 0, none⟩) := hk.at 7 (by decide +kernel)
                      clear hd hk
                      exact wp_value (.pointer (some ⟨X, 3, none⟩)) (by simp only [execOp, e7]; go_simp) (KC_mkv rfl rfl)
                    · skip
                      have e61 : a'.eval (.tmp 61) = .pointer (some ⟨X, 3, none⟩) := KC_val (hd.val 0 61 (by decide +kernel)) rfl
                      have hc := (VP.out.x.chg hC.2 (SP.out.tk.neT VP.out.x (by decide))).cell (j := 3) rfl
                      clear hd hk
                      exact wp_value (.slice pp qp cp) (by simp only [execOp, e61]; go_simp) (KC_mkv rfl rfl)
                    · skip
                      have e4 : a'.eval (.tmp 4) = PT D := hk.at 4 (by decide +kernel)
                      exact wp_value _ (by simp only [execOp, e4]; rfl) (KC_mkv rfl rfl)
                    · skip
                      obtain rfl : j_ = 0 := pvR_at (by decide) rfl hj_
                      have e63 : a'.eval (.tmp 63) = PT D := KC_val (hd.val 2 63 (by decide +kernel)) rfl
                      have hc0 := hC.1
                      rw [HB0] at hc0
                      skip
                      refine wp_callP 21 _ (run_enter 21 _ _ rfl (by kernel_rfl)) ?_
                      simp only [List.map_toArray, List.map_cons, List.map_nil, e63]
                      refine (CA.out w' hc0).mono ?_
                      rintro e w5 ⟨rfl, s5, c5⟩
                      rw [← HB1] at s5
                      exact ⟨_, rfl, KC_mkv rfl rfl, c5, s5, hC.2.trans c5⟩
                    · skip
                      have e4 : a'.eval (.tmp 4) = PT D := hk.at 4 (by decide +kernel)
                      exact wp_value _ (by simp only [execOp, e4]; rfl) (KC_mkv rfl rfl)
                    · skip
                      obtain rfl : j_ = 1 := pvR_at (by decide) rfl hj_
                      have e65 : a'.eval (.tmp 65) = PT D := KC_val (hd.val 4 65 (by decide +kernel)) rfl
                      have hc0 := hC.1
                      rw [HB1] at hc0
                      skip
                      refine wp_callP 21 _ (run_enter 21 _ _ rfl (by kernel_rfl)) ?_
                      simp only [List.map_toArray, List.map_cons, List.map_nil, e65]
                      refine (CB.out w' hc0).mono ?_
                      rintro e w5 ⟨rfl, s5, c5⟩
                      rw [← HB2] at s5
                      exact ⟨_, rfl, KC_mkv rfl rfl, c5, s5, hC.2.trans c5⟩
                    · skip
                      have e64 : a'.eval (.tmp 64) = .string pk := KC_val (hd.val 3 64 (by decide +kernel)) rfl
                      have e66 : a'.eval (.tmp 66) = .string pv := KC_val (hd.val 5 66 (by decide +kernel)) rfl
                      clear hd hk
                      exact wp_value (.agg (PC (pk, pv, false)).toArray) (by simp only [execOp, List.map_toArray, List.map_cons, List.map_nil, e64, e66, Sem.run_bind, Sem.run_pure]; exact congrArg (fun r => Result.andThen r _) (build_kv pk pv _)) (KC_mkv rfl rfl)
                    · skip
                      have e67 : a'.eval (.tmp 67) = .agg (PC (pk, pv, false)).toArray := KC_val (hd.val 6 67 (by decide +kernel)) rfl
                      have hsz9 : W ≤ w'.heap.size := Nat.le_trans ZP.out hC.2.size
                      exact wp_grow _ _ (by simp only [execOp, List.map_toArray, List.map_cons, List.map_nil, e67, Sem.run_bind, Sem.run_pure]; exact congrArg (fun r => Result.andThen r _) (build_pairs1 (pk, pv, false) _)) ((Below.refl _ _).alloc (Nat.le_refl _) _) (KC_mko rfl ⟨_, rfl, ownG_one (E := PE) w' W 41 (pk, pv, false) hsz9⟩)
                  · intro a' w20 hsz hdf hk hall hC
                    have T20 : Hid (TkAt w w20 D z2) := (show TkAt _ _ _ _ by have h := hC.1; rw [show ([3, 5] : List Nat).length = 2 from rfl, HB2] at h; exact h)
                    have K20 := hide hC.2
                    clear hC
                    have e61 : a'.eval (.tmp 61) = .pointer (some ⟨X, 3, none⟩) := KC_val (hall 0 _ 61 (by decide) rfl rfl) rfl
                    have e62 : a'.eval (.tmp 62) = .slice pp qp cp := KC_val (hall 1 _ 62 (by decide) rfl rfl) rfl
                    have e63 : a'.eval (.tmp 63) = PT D := KC_val (hall 2 _ 63 (by decide) rfl rfl) rfl
                    have e64 : a'.eval (.tmp 64) = .string pk := KC_val (hall 3 _ 64 (by decide) rfl rfl) rfl
                    have e65 : a'.eval (.tmp 65) = PT D := KC_val (hall 4 _ 65 (by decide) rfl rfl) rfl
                    have e66 : a'.eval (.tmp 66) = .string pv := KC_val (hall 5 _ 66 (by decide) rfl rfl) rfl
                    have e67 : a'.eval (.tmp 67) = .agg (PC (pk, pv, false)).toArray := KC_val (hall 6 _ 67 (by decide) rfl rfl) rfl
                    have r68 := KC_of (hall 7 _ 68 (by decide) rfl rfl) rfl
                    obtain ⟨x68, hx68⟩ : ∃ v, a'.eval (.tmp 68) = v := ⟨_, rfl⟩
                    rw [hx68] at r68
                    obtain ⟨x69, hx69⟩ : ∃ v, a'.eval (.tmp 69) = v := ⟨_, rfl⟩
                    obtain ⟨x70, hx70⟩ : ∃ v, a'.eval (.tmp 70) = v := ⟨_, rfl⟩
                    have ha := act_puts 126 rfl hsz hdf hk [61, 62, 63, 64, 65, 66, 67, 68, 69, 70] (by decide +kernel)
                    simp only [puts, List.foldl_cons, List.foldl_nil, e61, e62, e63, e64, e65, e66, e67, hx68, hx69, hx70] at ha
                    simp only [Act.put, List.setIfInBounds_toArray, List.set_cons_succ, List.set_cons_zero] at ha
                    clear hall hk hsz hdf e61 e62 e63 e64 e65 e66 e67 hx68 hx69 hx70
                    subst ha
                    obtain ⟨g9, rfl, o68⟩ := r68
                    have O68 := hide o68
                    have S20 := hide (SP.out.took T20.out K20.out)
                    have V20 := hide (VP.out.took SP.out.tk K20.out)
                    clear o68
                    have HL9 : Hid (ps.length + [((pk, pv, false) : Pr)].length ≤ 10000000) := (show _ ≤ _ by rw [List.length_singleton]; omega)
                    have ZW : Hid (W ≤ w20.heap.size) := (show _ ≤ _ by have := K20.out.size; have := ZP.out; omega)
                    refine ⟨rfl, ?_⟩
                    refine wp_append_E (E := PE) Try.underlying25 infoP9 (by decide) (.tmp 62) (.tmp 68) rfl W (.slice pp qp cp) ps rfl V20.out.row _ [(pk, pv, false)] rfl O68.out.rd HL9.out ZW.out ?_
                    intro v9 w21 o9 g9_ q9
                    obtain ⟨a9, c9, hv9⟩ := o9.form
                    have hn9 : (ps ++ [((pk, pv, false) : Pr)]).length = qp + 1 := (by rw [List.length_append, List.length_singleton, HP.out])
                    rw [hn9] at hv9
                    subst hv9
                    have K21 : Chg (fun b => (Value.slice pp qp cp).ownBlock = some b) w20 w21 := Chg.of_grown g9_ (fun k e _ => e)
                    have B21 : Below W w20 w21 := K21.below ZW.out (fun k hk e => by have := (V20.out.row.block e).1; omega)
                    have S21 := hide (S20.out.below (W := W) LW.out B21)
                    have X21 : Hid (Blk w21 X 39 [.bool true, .string k, .string tt, .slice pp qp cp]) := (show Blk _ _ _ _ from V20.out.x.chg K21 (fun e => by obtain ⟨_, _, cu, h5⟩ := V20.out.row.block e; exact absurd rfl (cells_ne h5 V20.out.x (by decide))))
                    have Z21 : Hid (W ≤ w21.heap.size) := (show _ ≤ _ by have := K21.size; have := ZW.out; omega)
                    have O21 := hide o9
                    have HN9 := hide hn9
                    clear o9 g9_ q9 K21 B21 hn9
                    refine ⟨_, rfl, ?_⟩
                    refine wpSeq_val rfl (.pointer (some ⟨X, 3, none⟩)) (by simp only [execOp]; go_simp) ?_
                    refine wpSeq_store_sl rfl 25 szs _ _ rfl X 3 39 _ _ _ _ rfl rfl X21.out (show 3 < 4 by decide) ?_
                    intro w22 hb22 hu22
                    have C22 : Chg (fun k => k = X) w21 w22 := Chg.of_but hu22 rfl
                    have S22 := hide (S21.out.below (W := W) LW.out (hu22.below hWX Z21.out))
                    have V22 : Hid (XS w22 W X true k tt (.slice a9 (qp + 1) c9) (ps ++ [(pk, pv, false)])) := (show XS _ _ _ _ _ _ _ _ from ⟨hb22, O21.out.chg C22 (fun j hj e => by obtain ⟨_, _, cu, h5⟩ := O21.out.block hj; exact cells_ne h5 X21.out (by decide) e), hWX⟩)
                    have Z22 : Hid (W ≤ w22.heap.size) := (show _ ≤ _ by have := hu22.size; have := Z21.out; omega)
                    have GN : Hid (Lg pP 200 x3 y z2 (ps ++ [(pk, pv, false)])) := (show Lg _ _ _ _ _ _ by rw [← HPq.out.1]; exact GP.out.next HPq.out.2)
                    clear hb22 hu22 C22
                    simp only [wpSeq]
                    have hw64 : wrap64 (((y + 1 : Nat) : Int) - 1) = (y : Int) := by unfold wrap64; omega
                    go_wp2_with fail
                    go_roundg (y + 1)
                    case measure => omega
                    case rel => exact ⟨y, qp + 1, c9, a9, ps ++ [(pk, pv, false)], z2, rfl, by go_num, by rw [HN9.out]; have := HP.out; omega, HN9, S22, V22, Z22, GN⟩
          | false =>
            go_upto_region 11 with fail
            try simp only [Act.put]
            clear e0
            obtain ⟨x3, Hx3⟩ : ∃ z, Hid (x2 = z) := ⟨_, rfl⟩
            have SX : Hid (RdS w w12 N D R a b c x3 (.slice pa q cc) (.slice none 0 0) L []) := (show RdS _ _ _ _ _ _ _ _ _ _ _ _ _ by rw [← Hx3.out]; exact S12.out)
            have HTT : Hid (got (pT false 64) em x2 = em) := (show _ = _ by cases x2 <;> rfl)
            have HX3 : Hid (aft (pT false 64) x2 = x3) := (show _ = _ by rw [← Hx3.out]; first | rfl | (cases x2 <;> rfl))
            have HRQ : Hid (aft pR (some lr) = aft (pL 200 pP) x3 ∧ ∀ y z, (some lr).bind pR = some (y, z) → ∃ ps, x3.bind (pL 200 pP) = some (ps, z) ∧ y = (false, k, em, ps)) := (show _ ∧ _ from by
              have h := HRP.out
              rw [HX3.out, HTT.out] at h
              exact h)
            have C4 := hide (knum_any SX.out.tk 200 (by decide))
            have GTP := hide (Lg.start pP 200 x3)
            obtain ⟨np, Hnp⟩ : ∃ z, Hid (got (pN 200) 0 x3 = z) := ⟨_, rfl⟩
            obtain ⟨t4, Ht4⟩ : ∃ z, Hid (aft (pN 200) x3 = z) := ⟨_, rfl⟩
            have hnp : np ≤ 200 := by rw [← Hnp.out]; exact got_le 200 x3
            rw [Hnp.out, Ht4.out] at GTP C4
            go_wp2_with fail
            refine C4.out.mono ?_
            rintro e w18 ⟨rfl, y18, c18⟩
            have SP0 := hide (SX.out.took y18 c18)
            have VP0 := hide (V12.out.took SX.out.tk c18)
            have ZP0 : Hid (W ≤ w18.heap.size) := (show _ ≤ _ by have := c18.size; have := Z12.out; omega)
            have GP0 : Hid (Lg pP 200 x3 np t4 ([] : List Pr)) := (show Lg _ _ _ _ _ _ from GTP.out)
            clear y18 c18 C4 GTP SX S12 V12 Z12 HX3 HTT
            go_wp2_with fail
            go_loopg [8] (np + 1) (fun g z wr => ∃ (i qp cp : Nat) (pp : Option Addr) (ps : List Pr) (sp : Option (List UInt8)), g = i + 1 ∧ z = .int .i64 (i : Int) ∧ ps.length + i ≤ 200 ∧ Hid (ps.length = qp) ∧ Hid (RdS w wr N D R a b c sp (.slice pa q cc) (.slice none 0 0) L []) ∧ Hid (XS wr W X false k em (.slice pp qp cp) ps) ∧ Hid (W ≤ wr.heap.size) ∧ Hid (Lg pP 200 x3 i sp ps))
            case atStart => exact ⟨np, 0, 0, none, [], t4, rfl, rfl, (by simpa using hnp), rfl, SP0, VP0, ZP0, GP0⟩
            case round =>
              clear SP0 VP0 ZP0 GP0 SR
              obtain ⟨i, qp, cp, pp, ps, sp, rfl, rfl, hpi, HP, SP, VP, ZP, GP⟩ := hrel
              obtain ⟨vt, lt, hbt9, hrt9, hlt9, hst9⟩ := SP.out.tk.b
              have dbad := hbt9.cell (j := 1) rfl
              clear hbt9 hrt9 hlt9 hst9
              rcases Nat.eq_zero_or_pos i with hi0 | hip
              · subst hi0
                have q9 : decide ((0 : Int) < ((0 : Nat) : Int)) = false := by decide
                clear dbad
                go_upto_region 15 with fail
                try simp only [Act.put]
                have EP : Hid (sp = aft pR (some lr) ∧ ∀ y z, (some lr).bind pR = some (y, z) → plR ⟨false, k, em, ps, pp, cp⟩ = y) := (show _ ∧ _ from ⟨by rw [HRQ.out.1]; exact GP.out.done.1, fun y z hy => by
                  obtain ⟨ps9, g1, g2⟩ := HRQ.out.2 y z hy
                  rw [g2, ← GP.out.done.2 ps9 z g1]
                  rfl⟩)
                obtain ⟨x, Hx⟩ : ∃ x : Rz, Hid (x = ⟨false, k, em, ps, pp, cp⟩) := ⟨_, rfl⟩
                have GN : Hid (Lg pR 64 s3 m sp ((L ++ [x]).map plR)) := (show Lg _ _ _ _ _ _ by rw [List.map_append, List.map_singleton, Hx.out, EP.out.1]; exact GR.out.next EP.out.2)
                have BX : Hid (Blk wr X 39 (XC x)) := (show Blk _ _ _ _ by rw [Hx.out]; unfold XC; simp only [HP.out]; exact VP.out.x)
                have XO : Hid (OwnG PE wr N 41 (xv x) x.ps) := (show OwnG _ _ _ _ _ _ by rw [Hx.out]; unfold xv; simp only [HP.out]; exact VP.out.row.mono (by have := LW.out.2.2.1; omega))
                clear EP GP VP
                have d3 := SP.out.rr.cell (j := 3) rfl
                have rk := BX.out.range0
                obtain ⟨w14, hw14⟩ : ∃ y, y = wr.alloc (.cells (XE.c x).toArray 39 (0, 0)) := ⟨_, rfl⟩
                have l14 : Hid (Below wr.heap.size wr w14) := (show Below _ _ _ by rw [hw14]; exact (Below.refl _ _).alloc (Nat.le_refl _) _)
                have R14 : Hid (RdG XE w14 (.slice (some ⟨wr.heap.size, 0, none⟩) 1 1) [x]) := (show RdG _ _ _ _ by rw [hw14]; exact rdG_one (E := XE) wr 39 x)
                have S14 := hide (SP.out.below SP.out.low l14.out)
                have XO14 := hide (XO.out.kept l14.out)
                have HL9 : Hid (L.length + [x].length ≤ 10000000) := (show _ ≤ _ by rw [List.length_singleton]; omega)
                have HL8 : Hid (N ≤ w14.heap.size) := (show _ ≤ _ from Nat.le_of_lt S14.out.rn.lt)
                have HW14 := hide hw14
                clear hw14 XO SP
                go_wp2_with (first
                  | (refine wpList_load_mid rfl 39 _ rfl X 0 rfl (XC x) _ rk Try.underlying39 rfl Try.size39 ?_)
                  | (refine wpList_build1E (E := XE) build_read1 rfl _ rfl x rfl ?_; change wpList _ _ _ _ _ (wr.alloc (.cells (XE.c x).toArray 39 (0, 0))); rw [← HW14.out])
                  | (refine wpList_append_E (E := XE) Try.underlying24 infoX (by decide) rfl (.tmp 72) (.tmp 74) rfl N (.slice pa q cc) L rfl S14.out.rs.row (.slice (some ⟨wr.heap.size, 0, none⟩) 1 1) [x] rfl R14.out HL9.out HL8.out ?_; intro v9 w15 o9 g9 q9; obtain ⟨a9, c9, hv9⟩ := o9.form; have hn9 : (L ++ [x]).length = q + 1 := (by rw [List.length_append, List.length_singleton, HQ.out]); rw [hn9] at hv9; subst hv9; have K15 : Chg (fun b => (Value.slice pa q cc).ownBlock = some b) w14 w15 := Chg.of_grown g9 (fun k e _ => e); have hE := hide (S14.out.rrow K15 o9 XO14.out); have HN9 := hide hn9; clear o9 g9 q9 hn9 K15)
                  | (refine wpList_store_sl rfl 24 szrs _ _ rfl R 3 27 _ _ _ _ rfl rfl hE.out.2 (show 3 < 5 by decide) ?_; intro w16 hb16 hu16)
                  | fail)
                have S16 : Hid (RdS w w16 N D R a b c sp (.slice a9 (q + 1) c9) (.slice none 0 0) (L ++ [x]) []) := (show RdS _ _ _ _ _ _ _ _ _ _ _ _ _ from by
                  have C16 : Chg (fun k => k = R) w15 w16 := Chg.of_but hu16 rfl
                  exact hE.out.1.store (ownG_nil _ _ _) (fun _ _ _ _ e => by cases e) hE.out.2 C16 hb16)
                clear hb16 hu16 hE
                have hw64 : wrap64 (((m + 1 : Nat) : Int) - 1) = (m : Int) := by unfold wrap64; omega
                go_wp2_with fail
                go_roundg (m + 1)
                case measure => omega
                case rel => exact ⟨m, q + 1, c9, a9, L ++ [x], sp, rfl, by go_num, by rw [HN9.out]; have := HQ.out; omega, HN9, S16, GN⟩
              · have hiI : (0 : Int) < (i : Int) := by omega
                cases sp with
                | none =>
                  have dbad : wr.cell? ⟨D, 1, none⟩ = some (.bool true) := dbad
                  go_upto_region 15 with fail
                  try simp only [Act.put]
                  clear dbad
                  have EP : Hid ((none : Option (List UInt8)) = aft pR (some lr) ∧ ∀ y z, (some lr).bind pR = some (y, z) → plR ⟨false, k, em, ps, pp, cp⟩ = y) := (show _ ∧ _ from ⟨by rw [HRQ.out.1]; exact GP.out.lost.1, fun y z hy => by
                    obtain ⟨ps9, g1, g2⟩ := HRQ.out.2 y z hy
                    rw [g2, ← GP.out.lost.2 ps9 z g1]
                    rfl⟩)
                  obtain ⟨x, Hx⟩ : ∃ x : Rz, Hid (x = ⟨false, k, em, ps, pp, cp⟩) := ⟨_, rfl⟩
                  have GN : Hid (Lg pR 64 s3 m none ((L ++ [x]).map plR)) := (show Lg _ _ _ _ _ _ by rw [List.map_append, List.map_singleton, Hx.out, EP.out.1]; exact GR.out.next EP.out.2)
                  have BX : Hid (Blk wr X 39 (XC x)) := (show Blk _ _ _ _ by rw [Hx.out]; unfold XC; simp only [HP.out]; exact VP.out.x)
                  have XO : Hid (OwnG PE wr N 41 (xv x) x.ps) := (show OwnG _ _ _ _ _ _ by rw [Hx.out]; unfold xv; simp only [HP.out]; exact VP.out.row.mono (by have := LW.out.2.2.1; omega))
                  clear EP GP VP
                  have d3 := SP.out.rr.cell (j := 3) rfl
                  have rk := BX.out.range0
                  obtain ⟨w14, hw14⟩ : ∃ y, y = wr.alloc (.cells (XE.c x).toArray 39 (0, 0)) := ⟨_, rfl⟩
                  have l14 : Hid (Below wr.heap.size wr w14) := (show Below _ _ _ by rw [hw14]; exact (Below.refl _ _).alloc (Nat.le_refl _) _)
                  have R14 : Hid (RdG XE w14 (.slice (some ⟨wr.heap.size, 0, none⟩) 1 1) [x]) := (show RdG _ _ _ _ by rw [hw14]; exact rdG_one (E := XE) wr 39 x)
                  have S14 := hide (SP.out.below SP.out.low l14.out)
                  have XO14 := hide (XO.out.kept l14.out)
                  have HL9 : Hid (L.length + [x].length ≤ 10000000) := (show _ ≤ _ by rw [List.length_singleton]; omega)
                  have HL8 : Hid (N ≤ w14.heap.size) := (show _ ≤ _ from Nat.le_of_lt S14.out.rn.lt)
                  have HW14 := hide hw14
                  clear hw14 XO SP
                  go_wp2_with (first
                    | (refine wpList_load_mid rfl 39 _ rfl X 0 rfl (XC x) _ rk Try.underlying39 rfl Try.size39 ?_)
                    | (refine wpList_build1E (E := XE) build_read1 rfl _ rfl x rfl ?_; change wpList _ _ _ _ _ (wr.alloc (.cells (XE.c x).toArray 39 (0, 0))); rw [← HW14.out])
                    | (refine wpList_append_E (E := XE) Try.underlying24 infoX (by decide) rfl (.tmp 72) (.tmp 74) rfl N (.slice pa q cc) L rfl S14.out.rs.row (.slice (some ⟨wr.heap.size, 0, none⟩) 1 1) [x] rfl R14.out HL9.out HL8.out ?_; intro v9 w15 o9 g9 q9; obtain ⟨a9, c9, hv9⟩ := o9.form; have hn9 : (L ++ [x]).length = q + 1 := (by rw [List.length_append, List.length_singleton, HQ.out]); rw [hn9] at hv9; subst hv9; have K15 : Chg (fun b => (Value.slice pa q cc).ownBlock = some b) w14 w15 := Chg.of_grown g9 (fun k e _ => e); have hE := hide (S14.out.rrow K15 o9 XO14.out); have HN9 := hide hn9; clear o9 g9 q9 hn9 K15)
                    | (refine wpList_store_sl rfl 24 szrs _ _ rfl R 3 27 _ _ _ _ rfl rfl hE.out.2 (show 3 < 5 by decide) ?_; intro w16 hb16 hu16)
                    | fail)
                  have S16 : Hid (RdS w w16 N D R a b c none (.slice a9 (q + 1) c9) (.slice none 0 0) (L ++ [x]) []) := (show RdS _ _ _ _ _ _ _ _ _ _ _ _ _ from by
                    have C16 : Chg (fun k => k = R) w15 w16 := Chg.of_but hu16 rfl
                    exact hE.out.1.store (ownG_nil _ _ _) (fun _ _ _ _ e => by cases e) hE.out.2 C16 hb16)
                  clear hb16 hu16 hE
                  have hw64 : wrap64 (((m + 1 : Nat) : Int) - 1) = (m : Int) := by unfold wrap64; omega
                  go_wp2_with fail
                  go_roundg (m + 1)
                  case measure => omega
                  case rel => exact ⟨m, q + 1, c9, a9, L ++ [x], none, rfl, by go_num, by rw [HN9.out]; have := HQ.out; omega, HN9, S16, GN⟩
                | some lp =>
                  have dbad : wr.cell? ⟨D, 1, none⟩ = some (.bool false) := dbad
                  obtain ⟨y, rfl⟩ : ∃ y, i = y + 1 := ⟨i - 1, by omega⟩
                  go_upto_region 14 with fail
                  try simp only [Act.put]
                  clear dbad
                  obtain ⟨pk, Hpk⟩ : ∃ z, Hid (got (pS 64) em (some lp) = z) := ⟨_, rfl⟩
                  obtain ⟨z1, Hz1⟩ : ∃ z, Hid (aft (pS 64) (some lp) = z) := ⟨_, rfl⟩
                  obtain ⟨pv, Hpv⟩ : ∃ z, Hid (got (pS 256) em z1 = z) := ⟨_, rfl⟩
                  obtain ⟨z2, Hz2⟩ : ∃ z, Hid (aft (pS 256) z1 = z) := ⟨_, rfl⟩
                  have HPq := hide (pP_parts Hpk.out Hz1.out Hpv.out Hz2.out)
                  obtain ⟨SB, HSB⟩ : ∃ f : Nat → Option (List UInt8), f = fun b => if b = 0 then some lp else if b = 1 then z1 else z2 := ⟨_, rfl⟩
                  have HB0 : SB 0 = some lp := by rw [HSB]; rfl
                  have HB1 : SB 1 = z1 := by rw [HSB]; rfl
                  have HB2 : SB 2 = z2 := by rw [HSB]; rfl
                  clear HSB
                  have CA : Hid (∀ W9, TkAt w W9 D (some lp) → Calls Try.prog 21 #[PT D, .int .i64 64] W9 fun e w' => e = .returned (.string pk) ∧ TkAt w w' D z1 ∧ Chg (fun k => k = D) W9 w') := (show ∀ W9, _ from fun W9 hW => by rw [← Hpk.out, ← Hz1.out]; exact kstr_any hW 64 (by decide))
                  have CB : Hid (∀ W9, TkAt w W9 D z1 → Calls Try.prog 21 #[PT D, .int .i64 256] W9 fun e w' => e = .returned (.string pv) ∧ TkAt w w' D z2 ∧ Chg (fun k => k = D) W9 w') := (show ∀ W9, _ from fun W9 hW => by rw [← Hpv.out, ← Hz2.out]; exact kstr_any hW 256 (by decide))
                  have hDW : D < W := LW.out.1
                  refine wp_region_chainR (R := Chg (fun k => k = D)) Try.mixed (KC (fun i_ => match i_ with | 0 => .val (.pointer (some ⟨X, 3, none⟩)) | 1 => .val (.slice pp qp cp) | 2 | 4 => .val (PT D) | 3 => .val (.string pk) | 5 => .val (.string pv) | 6 => .val (.agg (PC (pk, pv, false)).toArray) | 7 => .of (relChg _) (fun W9 x9 => ∃ g9, x9 = .slice (some ⟨g9, 0, none⟩) 1 1 ∧ OwnG PE W9 W 41 x9 [(pk, pv, false)]) (fun _ _ _ hr ⟨g9, e, h⟩ => ⟨g9, e, h.chg hr (fun k hk e => by have := (h.block hk).1; omega)⟩) | _ => .free)) (fun b_ w_ => TkAt w w_ D (SB b_) ∧ Chg (fun k => k = D) wr w_) [3, 5] 126 rfl (by decide +kernel) 8 (by decide) (by decide) (by decide) (by decide +kernel) (by decide +kernel) (KC_mono _) (KC_monoR (fun i_ h_ => (by split <;> first | rfl | exact absurd rfl h_))) (fun b_ w_ w_2 hg h => ⟨h.1.kept hg, h.2.trans (Chg.of_below hg)⟩) (⟨by rw [HB0]; exact SP.out.tk, Chg.refl _ _⟩) ?_ ?_
                  · refine AllFrom.cons ⟨rfl, fun _ a' b' w' hC hk hd Q => ?_, fun j_ hj_ => (pvR_no (by decide) j_ hj_).elim⟩ (AllFrom.cons ⟨rfl, fun _ a' b' w' hC hk hd Q => ?_, fun j_ hj_ => (pvR_no (by decide) j_ hj_).elim⟩ (AllFrom.cons ⟨rfl, fun _ a' b' w' hC hk hd Q => ?_, fun j_ hj_ => (pvR_no (by decide) j_ hj_).elim⟩ (AllFrom.cons ⟨rfl, fun h => absurd (by decide) h, fun j_ hj_ a' w' hC hk hd Q => ?_⟩ (AllFrom.cons ⟨rfl, fun _ a' b' w' hC hk hd Q => ?_, fun j_ hj_ => (pvR_no (by decide) j_ hj_).elim⟩ (AllFrom.cons ⟨rfl, fun h => absurd (by decide) h, fun j_ hj_ a' w' hC hk hd Q => ?_⟩ (AllFrom.cons ⟨rfl, fun _ a' b' w' hC hk hd Q => ?_, fun j_ hj_ => (pvR_no (by decide) j_ hj_).elim⟩ (AllFrom.cons ⟨rfl, fun _ a' b' w' hC hk hd Q => ?_, fun j_ hj_ => (pvR_no (by decide) j_ hj_).elim⟩ AllFrom.nil)))))))
                    · skip
                      have e7 : a'.eval (.tmp 7) = .pointer (some ⟨X, 0, none⟩) := hk.at 7 (by decide +kernel)
                      clear hd hk
                      exact wp_value (.pointer (some ⟨X, 3, none⟩)) (by simp only [execOp, e7]; go_simp) (KC_mkv rfl rfl)
                    · skip
                      have e61 : a'.eval (.tmp 61) = .pointer (some ⟨X, 3, none⟩) := KC_val (hd.val 0 61 (by decide +kernel)) rfl
                      have hc := (VP.out.x.chg hC.2 (SP.out.tk.neT VP.out.x (by decide))).cell (j := 3) rfl
                      clear hd hk
                      exact wp_value (.slice pp qp cp) (by simp only [execOp, e61]; go_simp) (KC_mkv rfl rfl)
                    · skip
                      have e4 : a'.eval (.tmp 4) = PT D := hk.at 4 (by decide +kernel)
                      exact wp_value _ (by simp only [execOp, e4]; rfl) (KC_mkv rfl rfl)
                    · skip
                      obtain rfl : j_ = 0 := pvR_at (by decide) rfl hj_
                      have e63 : a'.eval (.tmp 63) = PT D := KC_val (hd.val 2 63 (by decide +kernel)) rfl
                      have hc0 := hC.1
                      rw [HB0] at hc0
                      skip
                      refine wp_callP 21 _ (run_enter 21 _ _ rfl (by kernel_rfl)) ?_
                      simp only [List.map_toArray, List.map_cons, List.map_nil, e63]
                      refine (CA.out w' hc0).mono ?_
                      rintro e w5 ⟨rfl, s5, c5⟩
                      rw [← HB1] at s5
                      exact ⟨_, rfl, KC_mkv rfl rfl, c5, s5, hC.2.trans c5⟩
                    · skip
                      have e4 : a'.eval (.tmp 4) = PT D := hk.at 4 (by decide +kernel)
                      exact wp_value _ (by simp only [execOp, e4]; rfl) (KC_mkv rfl rfl)
                    · skip
                      obtain rfl : j_ = 1 := pvR_at (by decide) rfl hj_
                      have e65 : a'.eval (.tmp 65) = PT D := KC_val (hd.val 4 65 (by decide +kernel)) rfl
                      have hc0 := hC.1
                      rw [HB1] at hc0
                      skip
                      refine wp_callP 21 _ (run_enter 21 _ _ rfl (by kernel_rfl)) ?_
                      simp only [List.map_toArray, List.map_cons, List.map_nil, e65]
                      refine (CB.out w' hc0).mono ?_
                      rintro e w5 ⟨rfl, s5, c5⟩
                      rw [← HB2] at s5
                      exact ⟨_, rfl, KC_mkv rfl rfl, c5, s5, hC.2.trans c5⟩
                    · skip
                      have e64 : a'.eval (.tmp 64) = .string pk := KC_val (hd.val 3 64 (by decide +kernel)) rfl
                      have e66 : a'.eval (.tmp 66) = .string pv := KC_val (hd.val 5 66 (by decide +kernel)) rfl
                      clear hd hk
                      exact wp_value (.agg (PC (pk, pv, false)).toArray) (by simp only [execOp, List.map_toArray, List.map_cons, List.map_nil, e64, e66, Sem.run_bind, Sem.run_pure]; exact congrArg (fun r => Result.andThen r _) (build_kv pk pv _)) (KC_mkv rfl rfl)
                    · skip
                      have e67 : a'.eval (.tmp 67) = .agg (PC (pk, pv, false)).toArray := KC_val (hd.val 6 67 (by decide +kernel)) rfl
                      have hsz9 : W ≤ w'.heap.size := Nat.le_trans ZP.out hC.2.size
                      exact wp_grow _ _ (by simp only [execOp, List.map_toArray, List.map_cons, List.map_nil, e67, Sem.run_bind, Sem.run_pure]; exact congrArg (fun r => Result.andThen r _) (build_pairs1 (pk, pv, false) _)) ((Below.refl _ _).alloc (Nat.le_refl _) _) (KC_mko rfl ⟨_, rfl, ownG_one (E := PE) w' W 41 (pk, pv, false) hsz9⟩)
                  · intro a' w20 hsz hdf hk hall hC
                    have T20 : Hid (TkAt w w20 D z2) := (show TkAt _ _ _ _ by have h := hC.1; rw [show ([3, 5] : List Nat).length = 2 from rfl, HB2] at h; exact h)
                    have K20 := hide hC.2
                    clear hC
                    have e61 : a'.eval (.tmp 61) = .pointer (some ⟨X, 3, none⟩) := KC_val (hall 0 _ 61 (by decide) rfl rfl) rfl
                    have e62 : a'.eval (.tmp 62) = .slice pp qp cp := KC_val (hall 1 _ 62 (by decide) rfl rfl) rfl
                    have e63 : a'.eval (.tmp 63) = PT D := KC_val (hall 2 _ 63 (by decide) rfl rfl) rfl
                    have e64 : a'.eval (.tmp 64) = .string pk := KC_val (hall 3 _ 64 (by decide) rfl rfl) rfl
                    have e65 : a'.eval (.tmp 65) = PT D := KC_val (hall 4 _ 65 (by decide) rfl rfl) rfl
                    have e66 : a'.eval (.tmp 66) = .string pv := KC_val (hall 5 _ 66 (by decide) rfl rfl) rfl
                    have e67 : a'.eval (.tmp 67) = .agg (PC (pk, pv, false)).toArray := KC_val (hall 6 _ 67 (by decide) rfl rfl) rfl
                    have r68 := KC_of (hall 7 _ 68 (by decide) rfl rfl) rfl
                    obtain ⟨x68, hx68⟩ : ∃ v, a'.eval (.tmp 68) = v := ⟨_, rfl⟩
                    rw [hx68] at r68
                    obtain ⟨x69, hx69⟩ : ∃ v, a'.eval (.tmp 69) = v := ⟨_, rfl⟩
                    obtain ⟨x70, hx70⟩ : ∃ v, a'.eval (.tmp 70) = v := ⟨_, rfl⟩
                    have ha := act_puts 126 rfl hsz hdf hk [61, 62, 63, 64, 65, 66, 67, 68, 69, 70] (by decide +kernel)
                    simp only [puts, List.foldl_cons, List.foldl_nil, e61, e62, e63, e64, e65, e66, e67, hx68, hx69, hx70] at ha
                    simp only [Act.put, List.setIfInBounds_toArray, List.set_cons_succ, List.set_cons_zero] at ha
                    clear hall hk hsz hdf e61 e62 e63 e64 e65 e66 e67 hx68 hx69 hx70
                    subst ha
                    obtain ⟨g9, rfl, o68⟩ := r68
                    have O68 := hide o68
                    have S20 := hide (SP.out.took T20.out K20.out)
                    have V20 := hide (VP.out.took SP.out.tk K20.out)
                    clear o68
                    have HL9 : Hid (ps.length + [((pk, pv, false) : Pr)].length ≤ 10000000) := (show _ ≤ _ by rw [List.length_singleton]; omega)
                    have ZW : Hid (W ≤ w20.heap.size) := (show _ ≤ _ by have := K20.out.size; have := ZP.out; omega)
                    refine ⟨rfl, ?_⟩
                    refine wp_append_E (E := PE) Try.underlying25 infoP9 (by decide) (.tmp 62) (.tmp 68) rfl W (.slice pp qp cp) ps rfl V20.out.row _ [(pk, pv, false)] rfl O68.out.rd HL9.out ZW.out ?_
                    intro v9 w21 o9 g9_ q9
                    obtain ⟨a9, c9, hv9⟩ := o9.form
                    have hn9 : (ps ++ [((pk, pv, false) : Pr)]).length = qp + 1 := (by rw [List.length_append, List.length_singleton, HP.out])
                    rw [hn9] at hv9
                    subst hv9
                    have K21 : Chg (fun b => (Value.slice pp qp cp).ownBlock = some b) w20 w21 := Chg.of_grown g9_ (fun k e _ => e)
                    have B21 : Below W w20 w21 := K21.below ZW.out (fun k hk e => by have := (V20.out.row.block e).1; omega)
                    have S21 := hide (S20.out.below (W := W) LW.out B21)
                    have X21 : Hid (Blk w21 X 39 [.bool false, .string k, .string em, .slice pp qp cp]) := (show Blk _ _ _ _ from V20.out.x.chg K21 (fun e => by obtain ⟨_, _, cu, h5⟩ := V20.out.row.block e; exact absurd rfl (cells_ne h5 V20.out.x (by decide))))
                    have Z21 : Hid (W ≤ w21.heap.size) := (show _ ≤ _ by have := K21.size; have := ZW.out; omega)
                    have O21 := hide o9
                    have HN9 := hide hn9
                    clear o9 g9_ q9 K21 B21 hn9
                    refine ⟨_, rfl, ?_⟩
                    refine wpSeq_val rfl (.pointer (some ⟨X, 3, none⟩)) (by simp only [execOp]; go_simp) ?_
                    refine wpSeq_store_sl rfl 25 szs _ _ rfl X 3 39 _ _ _ _ rfl rfl X21.out (show 3 < 4 by decide) ?_
                    intro w22 hb22 hu22
                    have C22 : Chg (fun k => k = X) w21 w22 := Chg.of_but hu22 rfl
                    have S22 := hide (S21.out.below (W := W) LW.out (hu22.below hWX Z21.out))
                    have V22 : Hid (XS w22 W X false k em (.slice a9 (qp + 1) c9) (ps ++ [(pk, pv, false)])) := (show XS _ _ _ _ _ _ _ _ from ⟨hb22, O21.out.chg C22 (fun j hj e => by obtain ⟨_, _, cu, h5⟩ := O21.out.block hj; exact cells_ne h5 X21.out (by decide) e), hWX⟩)
                    have Z22 : Hid (W ≤ w22.heap.size) := (show _ ≤ _ by have := hu22.size; have := Z21.out; omega)
                    have GN : Hid (Lg pP 200 x3 y z2 (ps ++ [(pk, pv, false)])) := (show Lg _ _ _ _ _ _ by rw [← HPq.out.1]; exact GP.out.next HPq.out.2)
                    clear hb22 hu22 C22
                    simp only [wpSeq]
                    have hw64 : wrap64 (((y + 1 : Nat) : Int) - 1) = (y : Int) := by unfold wrap64; omega
                    go_wp2_with fail
                    go_roundg (y + 1)
                    case measure => omega
                    case rel => exact ⟨y, qp + 1, c9, a9, ps ++ [(pk, pv, false)], z2, rfl, by go_num, by rw [HN9.out]; have := HP.out; omega, HN9, S22, V22, Z22, GN⟩
#print axioms kread_any
end Go.Proofs.Ytmicmbjbclkbjaa
