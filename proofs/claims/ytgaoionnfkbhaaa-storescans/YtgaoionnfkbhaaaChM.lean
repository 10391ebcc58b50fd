/-
  Slices of versions in memory: what one reads as, what the call owns; make, copy, append, parts of them.
-/
import Derived.Test.YtgaoionnfkbhaaaBase
import Derived.Test.YtgaoionnfkbhaaaChP
namespace Go.Proofs.Ytgaoionnfkbhaaa
open Go.RowKit
theorem hide {p : Prop} (h : p) : Hid p := h
/-- The slice value v reads as the versions L. -/
def RdV (w : World) (v : Value) (L : List Ver) : Prop :=
  ∃ a cap, v = .slice a L.length cap ∧ L.length ≤ cap ∧ cap ≤ maxLen ∧ (a = none → cap = 0) ∧
    (0 < L.length → ∃ b off, a = some ⟨b, off, none⟩ ∧ b < w.heap.size ∧ ∀ j u, (VCs L)[j]? = some u → w.cell? ⟨b, off + j, none⟩ = some u)
theorem RdV_nil (w : World) : RdV w (.slice none 0 0) [] := ⟨none, 0, rfl, by simp, by simp, fun _ => rfl, fun h => by simp at h⟩
theorem RdV.kept {w w' : World} {v : Value} {L : List Ver} (h : RdV w v L) (hb : Below w.heap.size w w') : RdV w' v L := by
  obtain ⟨a, cap, rfl, h1, h2, h3, h4⟩ := h
  refine ⟨a, cap, rfl, h1, h2, h3, fun hl => ?_⟩
  obtain ⟨b, off, rfl, hlt, hc⟩ := h4 hl
  exact ⟨b, off, rfl, Nat.lt_of_lt_of_le hlt hb.size, fun j u hj => (hb.cell (p := ⟨b, off + j, none⟩) hlt).trans (hc j u hj)⟩
theorem RdV.slice {w : World} {v : Value} {L : List Ver} (h : RdV w v L) : ∃ a cap, v = .slice a L.length cap := by
  obtain ⟨a, cap, rfl, -⟩ := h
  exact ⟨a, cap, rfl⟩
/-- Where the versions lie. -/
theorem RdV.nth {w : World} {a : Option Addr} {n cap : Nat} {L : List Ver} (h : RdV w (.slice a n cap) L) (hp : 0 < n) :
    ∃ b off, a = some ⟨b, off, none⟩ ∧ b < w.heap.size ∧ ∀ j (hj : j < L.length), w.rangeAt b (off + j * 3) (VC L[j]) := by
  obtain ⟨a', cap', e, h1, h2, h3, h4⟩ := h
  simp only [Value.slice.injEq] at e
  obtain ⟨rfl, rfl, rfl⟩ := e
  obtain ⟨b, off, rfl, hlt, hc⟩ := h4 hp
  refine ⟨b, off, rfl, hlt, fun j hj i u hi => ?_⟩
  rw [Nat.add_assoc]
  exact hc (j * 3 + i) u (VCs_get hj hi)
theorem RdV.len {w : World} {a : Option Addr} {n cap : Nat} {L : List Ver} (h : RdV w (.slice a n cap) L) : L.length = n := by
  obtain ⟨a', cap', e, _⟩ := h
  simp only [Value.slice.injEq] at e
  exact e.2.1.symm
theorem RdV.cap {w : World} {a : Option Addr} {n cap : Nat} {L : List Ver} (h : RdV w (.slice a n cap) L) : n ≤ cap := by
  obtain ⟨a', cap', e, h1, _⟩ := h
  simp only [Value.slice.injEq] at e
  obtain ⟨_, rfl, rfl⟩ := e
  exact h1
theorem RdV.max {w : World} {a : Option Addr} {n cap : Nat} {L : List Ver} (h : RdV w (.slice a n cap) L) : cap ≤ 9223372036854775807 := by
  obtain ⟨a', cap', e, h1, h2, _⟩ := h
  simp only [Value.slice.injEq] at e
  obtain ⟨_, rfl, rfl⟩ := e
  simpa [maxLen] using h2
/-- The slice value v, of a row of elements of type e from block B on, is the call's own and holds the versions L. -/
def OwnV (w : World) (B : Nat) (e : TypeId) (v : Value) (L : List Ver) : Prop := w.ownsRow B e 3 v L.length (VCs L)
theorem OwnV.rd {w : World} {B : Nat} {e : TypeId} {v : Value} {L : List Ver} (h : OwnV w B e v L) : RdV w v L := by
  have hc := h
  obtain ⟨h1, h2⟩ := h
  rcases h2 with ⟨rfl, hn⟩ | ⟨g, cap, cur, rfl, hg, hh, hnc, hcm, hcs, htk⟩
  · have : L = [] := List.eq_nil_of_length_eq_zero hn
    subst this
    exact RdV_nil w
  · refine ⟨some ⟨g, 0, none⟩, cap, rfl, hnc, hcm, fun h => by simp at h, fun _ => ⟨g, 0, rfl, ?_, fun j u hj => ?_⟩⟩
    · exact (Array.getElem?_eq_some_iff.1 hh).1
    · have := World.ownsRow.cells hc (g := g) rfl j u hj
      simpa [Addr.add_lit] using this
theorem ownV_nil (w : World) (B : Nat) (e : TypeId) : OwnV w B e (.slice none 0 0) [] := ⟨rfl, .inl ⟨rfl, rfl⟩⟩
theorem OwnV.kept {w w' : World} {B : Nat} {e : TypeId} {v : Value} {L : List Ver} (h : OwnV w B e v L) (hb : Below w.heap.size w w') : OwnV w' B e v L := by
  obtain ⟨h1, h2⟩ := h
  refine ⟨h1, ?_⟩
  rcases h2 with h2 | ⟨g, cap, cur, hv, hg, hh, r⟩
  · exact Or.inl h2
  · have hlt : g < w.heap.size := (Array.getElem?_eq_some_iff.1 hh).1
    exact Or.inr ⟨g, cap, cur, hv, hg, by rw [hb.block g hlt]; exact hh, r⟩
theorem OwnV.mono {w : World} {B B' : Nat} {e : TypeId} {v : Value} {L : List Ver} (h : OwnV w B e v L) (hB : B' ≤ B) : OwnV w B' e v L := by
  obtain ⟨h1, h2⟩ := h
  refine ⟨h1, ?_⟩
  rcases h2 with h2 | ⟨g, cap, cur, hv, hg, r⟩
  · exact Or.inl h2
  · exact Or.inr ⟨g, cap, cur, hv, Nat.le_trans hB hg, r⟩
theorem own_blk {w : World} {B b : Nat} {e : TypeId} {L : List Ver} (h : Blk w b e (VCs L)) (hB : B ≤ b) (hm : L.length ≤ maxLen) : OwnV w B e (.slice (some ⟨b, 0, none⟩) L.length L.length) L :=
  ⟨VCs_length L, .inr ⟨b, L.length, (VCs L).toArray, rfl, hB, h, Nat.le_refl _, hm, by simp [VCs_length], by simp [List.take_of_length_le, VCs_length]⟩⟩
theorem RdV.src {P : Program} {w : World} {v : Value} {L : List Ver} (h : RdV w v L) (t e : TypeId) (hk : P.underlying t = some (.slice e)) : Src P 3 t v L.length (VCs L) w := by
  obtain ⟨a, cap, rfl, h1, h2, h3, h4⟩ := h
  cases a with
  | none =>
    have := h3 rfl
    have hl : L = [] := List.eq_nil_of_length_eq_zero (by omega)
    subst hl
    exact Src.ofNil w hk cap
  | some x =>
    refine Src.ofSlice w hk x L.length cap (VCs L) (VCs_length L) (fun j u hj => ?_) (VCs_one L)
    have hjl : j < (VCs L).length := (List.getElem?_eq_some_iff.1 hj).1
    rw [VCs_length] at hjl
    obtain ⟨b, off, e, _, hc⟩ := h4 (by omega)
    simp only [Option.some.injEq] at e
    subst e
    rw [Addr.add_lit]
    exact hc j u hj
/-- append of versions. -/
theorem wpList_append_vers {P : Program} (w : World) {ops : Array Oper} {rest : List Oper} {o : Oper} {a : Act} {Q : Exit → Act → World → Prop} (hgd : o.guard = none) (s x : Operand) (t tx : TypeId)
    (ho : o.op = .call { callee := .builtin .append, args := #[s, x], argTypes := #[t, tx] })
    (base : Nat) (e : TypeId) (i : TypeInfo) (ht : P.underlying t = some (.slice e)) (hi : P.info? e = some i) (hz : i.zero = some (.agg (VC zv).toArray))
    (hsize : i.size = 3) (hby : i.bytes = 32)
    (v : Value) (L : List Ver) (hv : a.eval s = v) (hown : OwnV w base e v L)
    (xv : Value) (M : List Ver) (hx : a.eval x = xv) (hs : Src P 3 tx xv M.length (VCs M) w)
    (hlen : L.length + M.length ≤ 4398046511104) (hbase : base ≤ w.heap.size)
    (h : ∀ v' w', OwnV w' base e v' (L ++ M) → Below base w w' → wpList P ops Q rest (a.put o.dst v') w') : wpList P ops Q (o :: rest) a w := by
  refine wpList_append_mine w hgd s x t tx ho base e i _ 3 32 ht hi hz hsize hby rfl v L.length (VCs L) hv hown xv M.length (VCs M) hx hs (by simp only [maxLen]; omega) (by omega) hbase ?_
  intro v' w' h1 h2
  refine h v' w' ?_ (below_of_grown w hown h2 hbase)
  unfold OwnV
  rw [List.length_append, VCs_append]
  exact h1
theorem replicate_VCs (n : Nat) : madeCells (VC zv).toArray (n * 3) = (VCs (List.replicate n zv)).toArray := by
  apply Array.ext'
  apply List.ext_getElem?
  intro j
  by_cases hj : j < n * 3
  · have h3 : j / 3 < (List.replicate n zv).length := by rw [List.length_replicate]; omega
    have hm : j % 3 < (VC zv).length := by rw [VC_length]; omega
    have := VCs_get h3 (i := j % 3) (u := (VC zv)[j % 3]) (by rw [List.getElem_replicate]; exact List.getElem?_eq_getElem hm)
    rw [show j / 3 * 3 + j % 3 = j by omega] at this
    rw [List.toList_toArray, this]
    have e : ∀ k (h : k < (VC zv).length), (VC zv)[k]?.getD default = (VC zv)[k] := fun k h => by rw [List.getElem?_eq_getElem h]; rfl
    have := e (j % 3) hm
    simpa [madeCells, hj, VC] using this
  · have h1 : (madeCells (VC zv).toArray (n * 3)).toList[j]? = none := by simp [madeCells, hj]
    rw [h1, List.getElem?_eq_none (by rw [List.toList_toArray, VCs_length, List.length_replicate]; omega)]
/-- make of versions. -/
theorem wpList_make_vers {P : Program} (w : World) {ops : Array Oper} {rest : List Oper} {o : Oper} {a : Act} {Q : Exit → Act → World → Prop}
    (hg : o.guard = none) (l c : Operand) (t e : TypeId) (hop : o.op = Op.makeSlice t l c)
    (i : TypeInfo) (h1 : P.underlying t = some (.slice e)) (h2 : P.info? e = some i) (h3 : i.zero = some (.agg (VC zv).toArray)) (h4 : i.size = 3) (h5 : i.bytes = 32)
    (kl kc : IntKind) (L C : Int) (n m : Nat) (hl : a.eval l = .int kl L) (hc : a.eval c = .int kc C) (hL : L = (n : Int)) (hC : C = (m : Int)) (hnm : n ≤ m) (b2 : m ≤ 8796093022208)
    (hK : wpList P ops Q rest (a.put o.dst (.slice (some ⟨w.heap.size, 0, none⟩) n m)) (w.alloc (.cells (VCs (List.replicate m zv)).toArray e))) :
    wpList P ops Q (o :: rest) a w := by
  refine wpList_plain hg fun K hK' => ?_
  subst hL
  subst hC
  have hrun := run_make (P := P) w t e i _ h1 h2 h3 kl kc n m (by omega) (by omega) (by rw [h5]; omega) (by omega)
  have e' : madeCells (Value.agg (VC zv).toArray).cells ((m : Int).toNat * i.size) = (VCs (List.replicate m zv)).toArray := by
    rw [h4, Int.toNat_natCast]
    exact replicate_VCs m
  rw [e'] at hrun
  simp only [Int.toNat_natCast] at hrun
  unfold Oper.wp
  simp only [execOp, hop, hl, hc, hrun, Result.andThen, Sem.run_bind, Sem.run_pure]
  exact hK' _ _ hK
/-- copy of versions to the head of a block. -/
theorem wpList_copy_vers {P : Program} {w : World} {ops : Array Oper} {rest : List Oper} {o : Oper} {a : Act} {Q : Exit → Act → World → Prop} (hgd : o.guard = none) (d s : Operand) (dT sT : TypeId)
    (ho : o.op = .call { callee := .builtin .copy, args := #[d, s], argTypes := #[dT, sT] }) (elem : TypeId) (hu : P.underlying dT = some (.slice elem)) (hsz : (P.info? elem).map (·.size) = some 3)
    (b dLen dCap : Nat) (v : Value) (L : List Ver) (hd : a.eval d = .slice (some ⟨b, 0, none⟩) dLen dCap) (hs : a.eval s = v) (hr : RdV w v L) (hl : L.length ≤ dLen)
    (T : TypeId) (cs : List Value) (hB : Blk w b T cs) (hfit : dLen * 3 ≤ cs.length)
    (h : wpList P ops Q rest (a.put o.dst (goInt L.length)) (w.setCells b 0 (VCs L))) : wpList P ops Q (o :: rest) a w := by
  obtain ⟨ad, cap, rfl, h1, h2, h3, h4⟩ := hr
  have hrun : (Builtin.copy_ #[dT, sT] o.type #[.slice (some ⟨b, 0, none⟩) dLen dCap, .slice ad L.length cap]).run P w = .ok (goInt L.length) (w.setCells b 0 (VCs L)) := by
    have hmin : Nat.min L.length dLen = L.length := Nat.min_eq_left hl
    cases hq : P.info? elem with
    | none => simp [hq] at hsz
    | some i =>
      have hi : i.size = 3 := by simpa [hq] using hsz
      have hc3 := VCs_length L
      have hst := run_storeCells_cells (P := P) b 0 (VCs L) 0 w (fun j hj => by rw [hB.cell (v := cs[0 + 0 + j]'(by omega)) (by simp)]; rfl) (fun j _ => hB.frozen _) (VCs_one L)
      by_cases hp : 0 < L.length
      · obtain ⟨c, of, rfl, hlt, hc⟩ := h4 hp
        have hld := run_loadCells_list (P := P) w ⟨c, of, none⟩ (VCs L) (fun j u hj => by rw [Addr.add_mid]; exact hc j u hj)
        rw [hc3] at hld
        simp [Builtin.copy_, run_underlying hu, Builtin.lenOf, Builtin.firstCells, sizeOf, typeInfo, hq, hi, hmin, hld, hst]
      · have hL : L = [] := List.eq_nil_of_length_eq_zero (by omega)
        subst hL
        have hld : ∀ (x : Addr), (loadCells x 0).run P w = .ok #[] w := fun x => by simpa using run_loadCells_list (P := P) w x [] (by simp)
        cases ad <;> simp [Builtin.copy_, run_underlying hu, Builtin.lenOf, Builtin.firstCells, sizeOf, typeInfo, hq, storeCells, hld, World.setCells, VCs_nil]
  refine wpList_plain hgd fun K hK => ?_
  unfold Oper.wp
  simp [execOp, ho, resolve, invoke, builtin, hd, hs, hrun, Result.andThen]
  exact hK _ _ h
/-- Versions, from place k on written over. -/
def overV (Z : List Ver) (k : Nat) (X : List Ver) : List Ver := Z.take k ++ X ++ Z.drop (k + X.length)
theorem over_VCs (Z : List Ver) (k : Nat) (X : List Ver) : over (VCs Z) (k * 3) (VCs X) = VCs (overV Z k X) := by
  unfold over overV
  rw [VCs_append, VCs_append, VCs_take, VCs_drop, VCs_length, Nat.add_mul]
theorem Blk.overV {w : World} {b : Nat} {T : TypeId} {Z : List Ver} (h : Blk w b T (VCs Z)) (k : Nat) (X : List Ver) (hk : k + X.length ≤ Z.length) : Blk (w.setCells b (k * 3) (VCs X)) b T (VCs (overV Z k X)) := by
  rw [← over_VCs]
  exact Blk.over (VCs X) h (k * 3) (by rw [VCs_length, VCs_length]; omega)
/-- From place i up to place j. -/
theorem slice_vers {P : Program} {t e : TypeId} (ht : P.underlying t = some (.slice e)) (hsz : (P.info? e).map (·.size) = some 3) (a : Option Addr) (n cap i : Nat) (hi : i ≤ n) (hn : n ≤ cap) :
    ∃ a', (∀ W, (Instr.sliceAt t (.slice a n cap) (some (.int .i64 (i : Int))) none none).run P W = .ok (.slice a' (n - i) (cap - i)) W) ∧
      (∀ w L, RdV w (.slice a n cap) L → RdV w (.slice a' (n - i) (cap - i)) (L.drop i)) := by
  have e1 : (i : Int) ≤ (n : Int) := by omega
  refine ⟨if cap = i then a else a.map (·.add (i * 3)), fun W => ?_, fun w L hr => ?_⟩
  · cases hq : P.info? e with
    | none => simp [hq] at hsz
    | some k =>
      have hk : k.size = 3 := by simpa [hq] using hsz
      simp [Instr.sliceAt, Instr.slice, run_underlying ht, Instr.sliceBounds, run_sliceBound, e1, sizeOf, typeInfo, hq, hk]
  · obtain ⟨a0, cap0, e, h1, h2, h3, h4⟩ := hr
    simp only [Value.slice.injEq] at e
    obtain ⟨rfl, rfl, rfl⟩ := e
    refine ⟨if cap = i then a else a.map (·.add (i * 3)), cap - i, by simp, by simp; omega, by omega, fun h => ?_, fun hp => ?_⟩
    · by_cases hcc : cap = i
      · omega
      · rw [if_neg hcc] at h
        have := h3 (by simpa using h)
        omega
    · simp at hp
      obtain ⟨b, off, rfl, hlt, hcell⟩ := h4 (by omega)
      rw [if_neg (by omega)]
      refine ⟨b, off + i * 3, by simp [Addr.add_mid], hlt, fun j u hj => ?_⟩
      rw [Nat.add_assoc]
      refine hcell (i * 3 + j) u ?_
      rw [← hj, VCs_drop, List.getElem?_drop]
theorem slice_vers_to {P : Program} {t e : TypeId} (ht : P.underlying t = some (.slice e)) (hsz : (P.info? e).map (·.size) = some 3) (a : Option Addr) (n cap j : Nat) (hj : j ≤ n) (hn : n ≤ cap) :
    ∃ a', (∀ W, (Instr.sliceAt t (.slice a n cap) none (some (.int .i64 (j : Int))) none).run P W = .ok (.slice a' j cap) W) ∧
      (∀ w L, RdV w (.slice a n cap) L → RdV w (.slice a' j cap) (L.take j)) := by
  have e2 : (j : Int) ≤ (cap : Int) := by omega
  refine ⟨a, fun W => ?_, fun w L hr => ?_⟩
  · cases hq : P.info? e with
    | none => simp [hq] at hsz
    | some k =>
      cases a <;> simp [Instr.sliceAt, Instr.slice, run_underlying ht, Instr.sliceBounds, run_sliceBound, e2, sizeOf, typeInfo, hq, Addr.add]
  · obtain ⟨a0, cap0, e, h1, h2, h3, h4⟩ := hr
    simp only [Value.slice.injEq] at e
    obtain ⟨rfl, rfl, rfl⟩ := e
    refine ⟨a, cap, by rw [List.length_take]; congr 1; omega, by rw [List.length_take]; omega, h2, h3, fun hp => ?_⟩
    rw [List.length_take] at hp
    obtain ⟨b, off, rfl, hlt, hcell⟩ := h4 (by omega)
    refine ⟨b, off, rfl, hlt, fun k u hk => hcell k u ?_⟩
    rw [VCs_take] at hk
    have : k < j * 3 := by have := (List.getElem?_eq_some_iff.1 hk).1; rw [List.length_take] at this; omega
    rwa [List.getElem?_take_of_lt this] at hk
/-- A row of one version. -/
theorem rdV_one (w : World) (T : TypeId) (v : Ver) : RdV (w.alloc (.cells #[.int .i64 v.1, .string v.2.1, .bool v.2.2] T (0, 0))) (.slice (some ⟨w.heap.size, 0, none⟩) 1 1) [v] := by
  refine ⟨some ⟨w.heap.size, 0, none⟩, 1, rfl, by simp, by simp [maxLen], fun h => by simp at h, fun _ => ⟨w.heap.size, 0, rfl, by simp, fun j u hj => ?_⟩⟩
  have := (Blk.new w T (VC v)).cell (j := j) (v := u) (by simpa [VCs] using hj)
  rwa [Nat.zero_add]
theorem Try.info76 : (Try.prog.info? 76).map (fun i => (i.zero, i.size, i.bytes)) = some (some (.agg (VC zv).toArray), 3, 32) := by kernel_rfl
theorem Try.info87 : (Try.prog.info? 87).map (fun i => (i.zero, i.size, i.bytes)) = some (some (.agg (VC zv).toArray), 3, 32) := by kernel_rfl
theorem Try.size76 : (Try.prog.info? 76).map (·.size) = some 3 := by kernel_rfl
theorem Try.size87 : (Try.prog.info? 87).map (·.size) = some 3 := by kernel_rfl
theorem Zver : ∀ W : World, (zeroValue 76).run Try.prog W = .ok (.agg #[.int .i64 0, .string ⟨#[]⟩, .bool false]) W := fun W => by kernel_rfl
theorem Zrver : ∀ W : World, (zeroValue 87).run Try.prog W = .ok (.agg #[.int .i64 0, .string ⟨#[]⟩, .bool false]) W := fun W => by kernel_rfl
end Go.Proofs.Ytgaoionnfkbhaaa
