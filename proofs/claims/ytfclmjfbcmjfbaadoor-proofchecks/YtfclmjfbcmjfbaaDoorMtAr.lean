/-
  indentureref09.Peaks.Add: what the call does.
-/
import Derived.Test.YtfclmjfbcmjfbaaDoorMtA
import Derived.Test.YtfclmjfbcmjfbaaDoorGR10
namespace Go.Proofs.YtfclmjfbcmjfbaaDoor
open Go.RowKit
section
variable {α : Type} {E : Enc α}
/-- Append to a row that is full, of something: a new row. -/
theorem run_append_full {P : Program} (w : World) (base : Nat) (t tx ty e : TypeId) (i : TypeInfo) (z : Value) (bytes : Nat) (ht : P.underlying t = some (.slice e)) (hi : P.info? e = some i) (hz : i.zero = some z)
    (hsize : i.size = E.n) (hby : i.bytes = bytes) (hzs : z.cells.size = E.n) (a : Option Addr) (n : Nat) (L : List α) (hr : RdG E w (.slice a n n) L) (x : Value) (M : List α) (hs : Src P E.n tx x M.length (E.cs M) w) (hm : 0 < M.length)
    (h63 : n + M.length ≤ maxLen) (hbytes : (n + M.length) * bytes ≤ 140737488355328) (hbase : base ≤ w.heap.size) :
    ∃ v' w', (Builtin.append_ #[t, tx] ty #[.slice a n n, x]).run P w = .ok v' w' ∧ OwnG E w' base e v' (L ++ M) ∧ Below w.heap.size w w' ∧ ∀ b, v'.ownBlock = some b → b = w.heap.size := by
  subst hby
  have hln := hr.len
  have hsmall : n + M.length ≤ 9223372036854775807 := by simp only [maxLen] at h63; omega
  have hold : (Builtin.firstCells i.size n (.slice a n n)).run P w.drew = .ok (E.cs L).toArray w.drew := by
    obtain ⟨a', cap', e', h1, h2, h3, h4⟩ := hr
    simp only [Value.slice.injEq] at e'
    obtain ⟨rfl, -, rfl⟩ := e'
    cases a with
    | none =>
      have hn0 := h3 rfl
      have hL : L = [] := List.eq_nil_of_length_eq_zero (by omega)
      subst hL
      exact run_firstCells_none w.drew i.size n n n
    | some b =>
      refine run_firstCells_some w.drew i.size n b n n (E.cs L) (by rw [Enc.cs_length, hsize, hln]) (fun j u hj => ?_)
      have hp : 0 < L.length := by
        have := (List.getElem?_eq_some_iff.1 hj).1
        rw [Enc.cs_length] at this
        exact Nat.pos_of_ne_zero fun h0 => by rw [h0] at this; omega
      obtain ⟨b', off, eb, -, hc⟩ := h4 hp
      cases eb
      rw [Addr.add_mid]
      exact hc j u hj
  have hs' : Src P i.size tx x M.length (E.cs M) w := by rw [hsize]; exact hs
  have hrun := run_append_grow_src (P := P) w t tx ty e i z ht hi hz a n n (E.cs L) hold x M.length (E.cs M) hs' (by omega) (by omega) (growslice_fits (by omega) hbytes)
  have hge := grownCap_ge w (n + M.length) n e
  have hcm : grownCap w (n + M.length) n e ≤ maxLen := grownCap_le_maxLen w (n + M.length) n e h63
  refine ⟨_, _, hrun, ?_, ⟨rfl, rfl, rfl, by simp, fun k hk => Below.heap_alloc w.drew _ k hk⟩, fun b hb => by simpa [Value.ownBlock] using hb.symm⟩
  have hlen : (E.cs L ++ E.cs M).length = (n + M.length) * E.n := by rw [← Enc.cs_append, Enc.cs_length, List.length_append, hln]
  unfold OwnG
  rw [Enc.cs_append, List.length_append, hln]
  refine ⟨hlen, .inr ⟨w.heap.size, _, _, rfl, hbase, heap_alloc_new w.drew _, hge, hcm, ?_, ?_⟩⟩
  · simp only [Array.size_append, List.size_toArray, size_zeroCells, hzs, hlen, ← Nat.add_mul]
    congr 1
    omega
  · simp only [Array.toList_append]
    rw [← hlen]
    exact List.take_left
/-- The first j, with no room behind. -/
theorem slice_G_cap {P : Program} {t e : TypeId} (ht : P.underlying t = some (.slice e)) (hsz : (P.info? e).map (·.size) = some E.n) (a : Option Addr) (n cap j : Nat) (hj : j ≤ n) (hn : n ≤ cap) :
    (∀ W, (Instr.sliceAt t (.slice a n cap) none (some (.int .i64 (j : Int))) (some (.int .i64 (j : Int)))).run P W = .ok (.slice a j j) W) ∧
      (∀ w (L : List α), RdG E w (.slice a n cap) L → RdG E w (.slice a j j) (L.take j)) := by
  have e2 : (j : Int) ≤ (cap : Int) := by omega
  refine ⟨fun W => ?_, fun w L hr => ?_⟩
  · cases hq : P.info? e with
    | none => simp [hq] at hsz
    | some k =>
      cases a <;> simp [Instr.sliceAt, Instr.slice, run_underlying ht, Instr.sliceBounds, run_sliceBound, e2, sizeOf, typeInfo, hq, Addr.add]
  · obtain ⟨a0, cap0, e, h1, h2, h3, h4⟩ := hr
    simp only [Value.slice.injEq] at e
    obtain ⟨rfl, rfl, rfl⟩ := e
    refine ⟨a, j, by rw [List.length_take]; congr 1; omega, by rw [List.length_take]; omega, by omega, fun h => by have := h3 h; omega, fun hp => ?_⟩
    rw [List.length_take] at hp
    obtain ⟨b, off, rfl, hlt, hcell⟩ := h4 (by omega)
    refine ⟨b, off, rfl, hlt, fun k u hk => hcell k u ?_⟩
    rw [Enc.cs_take] at hk
    have : k < j * E.n := by have := (List.getElem?_eq_some_iff.1 hk).1; rw [List.length_take] at this; omega
    rwa [List.getElem?_take_of_lt this] at hk
end
theorem Kept.put9 {ops : Array Oper} {a0 a : Act} {d : Nat} {v : Value} (h : Kept ops a0 a) (i : Nat) (o : Oper) (ho : ops[i]? = some o) (hd : o.dst = some d) : Kept ops a0 (a.put (some d) v) := fun t ht => by
  rw [eval_put_other (fun e => ht i o ho (hd.trans e))]
  exact h t ht
theorem infoH9 : ∃ i z, Tryd.prog.info? 30 = some i ∧ i.zero = some z ∧ i.size = HE.n ∧ i.bytes = 32 ∧ z.cells.size = HE.n := by
  have h : (Tryd.prog.info? 30).map (fun i => (i.zero, i.size, i.bytes)) = some (some (HV zh), HE.n, 32) := by kernel_rfl
  obtain ⟨i, h1, h2, h3, h4⟩ := info_parts h
  exact ⟨i, _, h1, h2, h3, h4, by kernel_rfl⟩
theorem build0H (w : World) : (Instr.buildSlice 22 0 #[]).run Tryd.prog w = .ok (.slice (some ⟨w.heap.size, 0, none⟩) 0 0) (w.alloc (.cells #[] 30 (0, 0))) := by kernel_rfl
theorem run_append_full9 (w : World) (base : Nat) (t tx ty : TypeId) (a : Option Addr) (n : Nat) (L : List Hs) (hr : RdG HE w (.slice a n n) L) (x : Value) (M : List Hs) (hs : RdG HE w x M) (hm : 0 < M.length) (hl : n + M.length ≤ 1000000) (hbase : base ≤ w.heap.size) (ht : Tryd.prog.underlying t = some (.slice 30)) (htx : Tryd.prog.underlying tx = some (.slice 30)) :
    ∃ v' w', (Builtin.append_ #[t, tx] ty #[.slice a n n, x]).run Tryd.prog w = .ok v' w' ∧ Below w.heap.size w w' ∧ OwnG HE w' base 30 v' (L ++ M) := by
  obtain ⟨i, z, h1, h2, h3, h4, h5⟩ := infoH9
  obtain ⟨v', w', g1, g2, g3, -⟩ := run_append_full (E := HE) (P := Tryd.prog) w base t tx ty 30 i z 32 ht h1 h2 h3 h4 h5 a n L hr x M (hs.src tx 30 htx) hm (by unfold maxLen; omega) (by omega) hbase
  exact ⟨v', w', g1, g3, g2⟩
theorem run_append_own (w : World) (base : Nat) (t tx ty : TypeId) (g : Nat) (ho : OwnG HE w base 30 (.slice (some ⟨g, 0, none⟩) 0 0) []) (x : Value) (M : List Hs) (hs : RdG HE w x M) (hl : M.length ≤ 1000000) (ht : Tryd.prog.underlying t = some (.slice 30)) (htx : Tryd.prog.underlying tx = some (.slice 30)) :
    ∃ v' w', (Builtin.append_ #[t, tx] ty #[.slice (some ⟨g, 0, none⟩) 0 0, x]).run Tryd.prog w = .ok v' w' ∧ OwnG HE w' base 30 v' M ∧ Below w.heap.size w w' := by
  obtain ⟨i, z, h1, h2, h3, h4, h5⟩ := infoH9
  have hbase : base ≤ w.heap.size := by
    have := ho.block (b := g) rfl
    omega
  by_cases hm : M.length = 0
  · have hM : M = [] := List.eq_nil_of_length_eq_zero hm
    subst hM
    refine ⟨.slice (some ⟨g, 0, none⟩) 0 0, w, ?_, ho, Below.refl _ _⟩
    have q := hs.src tx 30 htx
    have q1 := q.len
    have q2 := q.cells
    simp only [List.length_nil, Enc.cs_nil] at q1 q2
    rcases q.kind with ⟨e', hk⟩ | hk <;> simp [Builtin.append_, run_underlying ht, run_underlying hk, sizeOf, typeInfo, h1, q1, q2, h3, storeCells]
  · obtain ⟨v', w', g1, g3, g2⟩ := run_append_full9 w base t tx ty (some ⟨g, 0, none⟩) 0 [] ho.rd x M hs (by omega) (by omega) hbase ht htx
    rw [List.nil_append] at g2
    exact ⟨v', w', g1, g2, g3⟩
end Go.Proofs.YtfclmjfbcmjfbaaDoor
