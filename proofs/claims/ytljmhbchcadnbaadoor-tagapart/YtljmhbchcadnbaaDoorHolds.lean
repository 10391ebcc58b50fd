/-
  What a State holds of the bytes that were written; a copy of bytes into the middle of a block.
-/
import Derived.Test.YtljmhbchcadnbaaDoorState
import Derived.Laws.CopyOwn
namespace Go.Proofs.YtljmhbchcadnbaaDoor
open Go.RowKit

theorem blks_take (m l : List UInt8) : ∀ j, 64 * j ≤ m.length → blks (m ++ l) j = blks m j
  | 0, _ => rfl
  | j + 1, h => by
    rw [blks, blks, blks_take m l j (by omega)]
    congr 1
    rw [List.drop_append_of_le_length (by omega), List.take_append_of_le_length (by simp; omega)]
theorem blks_length (m : List UInt8) (hb : ∀ h b, h.length = 8 → (blk h b).length = 8) : ∀ j, (blks m j).length = 8
  | 0 => rfl
  | j + 1 => hb _ _ (blks_length m hb j)

/-- The words h and the block k are those of the bytes m. -/
structure Holds (h : List W) (k m : List UInt8) : Prop where
  words : h = blks m (m.length / 64)
  size : k.length = 64
  rest : k.take (m.length % 64) = m.drop (64 * (m.length / 64))

theorem holds_nil : Holds H0 (List.replicate 64 0) [] := ⟨rfl, rfl, rfl⟩

/-- Not yet a whole block. -/
theorem holds_few {h : List W} {k m l : List UInt8} (hh : Holds h k m) (hl : m.length % 64 + l.length < 64) :
    Holds h (k.take (m.length % 64) ++ l ++ k.drop (m.length % 64 + l.length)) (m ++ l) := by
  have hq : (m ++ l).length / 64 = m.length / 64 := by simp; omega
  have hr : (m ++ l).length % 64 = m.length % 64 + l.length := by simp; omega
  have hk := hh.size
  refine ⟨?_, ?_, ?_⟩
  · rw [hq, blks_take _ _ _ (by omega)]; exact hh.words
  · simp [hk]; omega
  · rw [hq, hr, List.drop_append_of_le_length (by omega), ← hh.rest]
    rw [List.take_append_of_le_length (by simp [hk]; omega), List.take_of_length_le (by simp [hk]; omega)]
/-- The block is full now. -/
theorem full_block {h : List W} {k m l : List UInt8} (hh : Holds h k m) :
    k.take (m.length % 64) ++ l.take (64 - m.length % 64) = ((m ++ l).drop (64 * (m.length / 64))).take 64 := by
  have hd : (m.drop (64 * (m.length / 64))).length = m.length % 64 := by simp; omega
  rw [hh.rest, List.drop_append_of_le_length (by omega), List.take_append, hd, List.take_of_length_le (l := m.drop _) (by omega)]
theorem full_words {h : List W} {k m l : List UInt8} (hh : Holds h k m) :
    blk h (k.take (m.length % 64) ++ l.take (64 - m.length % 64)) = blks (m ++ l) (m.length / 64 + 1) := by
  rw [full_block hh, blks, blks_take _ _ _ (by omega), hh.words]
theorem full_rest (m l : List UInt8) : l.drop (64 - m.length % 64) = (m ++ l).drop (64 * (m.length / 64 + 1)) := by
  rw [List.drop_append, (List.drop_eq_nil_of_le (by omega) : m.drop (64 * (m.length / 64 + 1)) = []), List.nil_append]
  congr 1
  omega
theorem none_rest (m l : List UInt8) (hr : m.length % 64 = 0) : l = (m ++ l).drop (64 * (m.length / 64)) := by
  rw [List.drop_append_of_le_length (by omega), List.drop_eq_nil_of_le (by omega), List.nil_append]
theorem none_words {h : List W} {k m : List UInt8} (l : List UInt8) (hh : Holds h k m) : h = blks (m ++ l) (m.length / 64) := by
  rw [blks_take _ _ _ (by omega)]; exact hh.words
/-- What is left over at the end. -/
theorem holds_end (M k : List UInt8) (j : Nat) (hk : k.length = 64) (hj : 64 * j ≤ M.length) (hr : (M.drop (64 * j)).length < 64) :
    Holds (blks M j) (M.drop (64 * j) ++ k.drop (M.drop (64 * j)).length) M := by
  have hl : (M.drop (64 * j)).length = M.length - 64 * j := by simp
  have hq : M.length / 64 = j := by omega
  have hm : M.length % 64 = M.length - 64 * j := by omega
  refine ⟨by rw [hq], by rw [List.length_append, hl, List.length_drop, hk]; omega, ?_⟩
  rw [hq, hm, List.take_append_of_le_length (by omega), List.take_of_length_le (by omega)]

/-- copy, of bytes, into the middle of a block. -/
theorem wpList_copy_bytes {P : Program} {w : World} {ops : Array Oper} {rest : List Oper} {o : Oper} {a : Act} {Q : Exit → Act → World → Prop} (hgd : o.guard = none) (d s : Operand) (dT sT : TypeId)
    (ho : o.op = .call { callee := .builtin .copy, args := #[d, s], argTypes := #[dT, sT] }) (elem : TypeId) (hu : P.underlying dT = some (.slice elem)) (hsz : (P.info? elem).map (·.size) = some 1)
    (b off dLen dCap : Nat) (v : Value) (l : List UInt8) (hd : a.eval d = .slice (some ⟨b, off, none⟩) dLen dCap) (hs : a.eval s = v) (hr : Rd w v l) (X : List UInt8) (c : Nat) (hX : l.take dLen = X) (hXc : X.length = c)
    (T : TypeId) (cs : List Value) (hB : Blk w b T cs) (hfit : off + dLen ≤ cs.length)
    (h : wpList P ops Q rest (a.put o.dst (goInt c)) (w.setCells b off (By X))) : wpList P ops Q (o :: rest) a w := by
  subst hX hXc
  obtain ⟨ad, cap, rfl, h1, h2, h3, h4⟩ := hr
  by_cases h0 : Nat.min l.length dLen = 0
  · have e : l.take dLen = [] := List.eq_nil_of_length_eq_zero (by rw [List.length_take, Nat.min_comm]; exact h0)
    rw [e] at h
    exact wpList_copy_nothing hgd d s dT sT ho elem hu hsz _ _ _ _ _ _ hd hs h0 h
  · have hp : 0 < l.length := by
      rcases Nat.eq_zero_or_pos l.length with h | h
      · rw [h] at h0; exact absurd (Nat.zero_min _) h0
      · exact h
    obtain ⟨c, of, rfl, hlt, hc⟩ := h4 hp
    have hlen : (By (l.take dLen)).length = Nat.min l.length dLen := by rw [By_length, List.length_take, Nat.min_comm]
    have hmin : Nat.min l.length dLen ≤ dLen := Nat.min_le_right _ _
    refine wpList_plain hgd fun K hK => ?_
    have hrun := run_copy_cells (P := P) w dT sT o.type elem b off dLen dCap ⟨c, of, none⟩ l.length cap (By (l.take dLen)) hu hsz hlen
      (fun j v hj => by
        rw [Addr.add_mid]
        refine hc j v ?_
        have hj' : j < (l.take dLen).length := by have := (List.getElem?_eq_some_iff.1 hj).1; rwa [By_length] at this
        rw [← hj, By, By, List.map_take, List.getElem?_take_of_lt (by rw [List.length_take] at hj'; omega)])
      (fun j hj => by rw [hB.cell (v := cs[off + j]'(by omega)) (by simp)]; rfl) (fun j _ => hB.frozen _) (By_one _)
    unfold Oper.wp
    simp [execOp, ho, resolve, invoke, builtin, hd, hs, hrun, Result.andThen]
    have := hK _ _ h
    rw [By_length]
    exact this

/-- A slice from place c on. -/
theorem slice_from {P : Program} (hu : P.underlying 22 = some (.slice 5)) (hsz : (P.info? 5).map (·.size) = some 1) (a : Option Addr) (n cap c : Nat) (hc : c ≤ n) (hn : n ≤ cap) :
    ∃ a', (∀ W, (Instr.sliceAt 22 (.slice a n cap) (some (.int .i64 (c : Int))) none none).run P W = .ok (.slice a' (n - c) (cap - c)) W) ∧
      (∀ w l, Rd w (.slice a n cap) l → Rd w (.slice a' (n - c) (cap - c)) (l.drop c)) ∧ (∀ w l b, Rd w (.slice a n cap) l → Off b (.slice a n cap) → Off b (.slice a' (n - c) (cap - c))) := by
  have hcn : (c : Int) ≤ (n : Int) := by omega
  refine ⟨if cap = c then a else a.map (·.add c), fun W => ?_, fun w l hr => ?_, fun w l b hr ho => ?_⟩
  · cases hq : P.info? 5 with
    | none => simp [hq] at hsz
    | some i =>
      have hi : i.size = 1 := by simpa [hq] using hsz
      simp [Instr.sliceAt, Instr.slice, run_underlying hu, Instr.sliceBounds, run_sliceBound, hcn, sizeOf, typeInfo, hq, hi]
  · obtain ⟨a0, cap0, e, h1, h2, h3, h4⟩ := hr
    simp only [Value.slice.injEq] at e
    obtain ⟨rfl, rfl, rfl⟩ := e
    refine ⟨if cap = c then a else a.map (·.add c), cap - c, by simp, by simp; omega, by omega, fun h => ?_, fun hp => ?_⟩
    · by_cases hcc : cap = c
      · omega
      · rw [if_neg hcc] at h
        have := h3 (by simpa using h)
        omega
    · simp at hp
      obtain ⟨b, off, rfl, hlt, hcell⟩ := h4 (by omega)
      rw [if_neg (by omega)]
      refine ⟨b, off + c, by simp [Addr.add_mid], hlt, fun j u hj => ?_⟩
      rw [Nat.add_assoc]
      refine hcell (c + j) u ?_
      rw [← hj]
      simp [By, List.getElem?_drop]
  · intro b' off' n' cap' e hp
    simp only [Value.slice.injEq] at e
    obtain ⟨e1, rfl, rfl⟩ := e
    obtain ⟨a0, cap0, e, h1, h2, h3, h4⟩ := hr
    simp only [Value.slice.injEq] at e
    obtain ⟨rfl, rfl, rfl⟩ := e
    obtain ⟨d, off, rfl, hlt, hcell⟩ := h4 (by omega)
    rw [if_neg (by omega)] at e1
    simp [Addr.add_mid] at e1
    have := ho d off _ _ rfl (by omega)
    omega
theorem slice_to {P : Program} (hu : P.underlying 22 = some (.slice 5)) (hsz : (P.info? 5).map (·.size) = some 1) (a : Option Addr) (n cap c : Nat) (hc : c ≤ n) (hn : n ≤ cap) (h0 : 0 < c) (w : World) (l : List UInt8) (hr : Rd w (.slice a n cap) l) :
    (∀ W, (Instr.sliceAt 22 (.slice a n cap) none (some (.int .i64 (c : Int))) none).run P W = .ok (.slice a c cap) W) := fun W => by
  have hcn : (c : Int) ≤ (cap : Int) := by omega
  obtain ⟨a0, cap0, e, h1, h2, h3, h4⟩ := hr
  simp only [Value.slice.injEq] at e
  obtain ⟨rfl, rfl, rfl⟩ := e
  obtain ⟨d, off, rfl, hlt, hcell⟩ := h4 (by omega)
  cases hq : P.info? 5 with
  | none => simp [hq] at hsz
  | some _ =>
    simp [Instr.sliceAt, Instr.slice, run_underlying hu, Instr.sliceBounds, run_sliceBound, hcn, sizeOf, typeInfo, hq, Addr.add_mid]
end Go.Proofs.YtljmhbchcadnbaaDoor
