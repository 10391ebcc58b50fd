/-
  Collect: what the call does.
-/
import Derived.Test.YtgaoionnfkbhaabStX
namespace Go.Proofs.Ytgaoionnfkbhaab
open Go.RowKit
/-- m[k] = c, in a walk. -/
theorem wpList_chput {w : World} {ops : Array Oper} {rest : List Oper} {op : Oper} {a : Act} {Q : Exit → Act → World → Prop} (hg : op.guard = none) (m x v : Operand) (hop : op.op = Op.mapUpdate 36 m x v)
    (M N : Nat) (ch : ByteArray → List Ver) (hm : a.eval m = .map (some M)) (h : MapC w M ch N) (hN : N ≤ 1000000) (k : ByteArray) (hk : k.size ≤ maxLen) (hx : a.eval x = .string k) (u : Value) (L : List Ver) (hv : a.eval v = u) (ho : OwnV w 0 50 u L) (hL : L ≠ [])
    (hK : ∀ w', MapC w' M (fun j => if j = k then L else ch j) (if (ch k).isEmpty then N + 1 else N) → w.mapTurned w' M → wpList Try.prog ops Q rest (a.put op.dst undef) w') : wpList Try.prog ops Q (op :: rest) a w := by
  refine wpList_plain hg fun K hK' => ?_
  obtain ⟨w', hrun, h1, h2⟩ := h.put hN k hk ho hL
  unfold Oper.wp
  simp [execOp, hop, hm, hx, hv, hrun, Result.andThen]
  exact hK' _ _ (hK w' h1 h2)
/-- delete(m, k), in a walk. -/
theorem wpList_chdel {w : World} {ops : Array Oper} {rest : List Oper} {op : Oper} {a : Act} {Q : Exit → Act → World → Prop} (hg : op.guard = none) (m x : Operand) (hop : op.op = Op.call { callee := Callee.builtin Builtin.delete, args := #[m, x], argTypes := #[36, 9] })
    (M N : Nat) (ch : ByteArray → List Ver) (hm : a.eval m = .map (some M)) (h : MapC w M ch N) (k : ByteArray) (hk : k.size ≤ maxLen) (hx : a.eval x = .string k)
    (hK : ∀ w', MapC w' M (fun j => if j = k then [] else ch j) (if (ch k).isEmpty then N else N - 1) → w.mapTurned w' M → wpList Try.prog ops Q rest (a.put op.dst (.tuple #[])) w') : wpList Try.prog ops Q (op :: rest) a w := by
  refine wpList_plain hg fun K hK' => ?_
  obtain ⟨w', hrun, h1, h2⟩ := h.del k hk op.type
  unfold Oper.wp
  simp [execOp, resolve, invoke, builtin, hop, hm, hx, hrun, Result.andThen]
  exact hK' _ _ (hK w' h1 h2)
theorem trimP_nil (n : Int) : trimP [] n = [] := rfl
/-- The chains, the first keys of which are trimmed. -/
def colC (ch : ByteArray → List Ver) (n : Int) (l : List ByteArray) : ByteArray → List Ver := fun k => if (l.any fun x => decide (x = k)) = true then trimP (ch k) n else ch k
/-- The keys that are left. -/
def colK (ch : ByteArray → List Ver) (n : Int) (l : List ByteArray) : List ByteArray := l.filter fun k => !(trimP (ch k) n).isEmpty
theorem colC_snoc {ch : ByteArray → List Ver} {n : Int} {l : List ByteArray} {k : ByteArray} : (fun j => if j = k then trimP (ch k) n else colC ch n l j) = colC ch n (l ++ [k]) := by
  funext j
  unfold colC
  by_cases h : j = k
  · subst h
    simp
  · have h' : ¬ k = j := fun e => h e.symm
    have e : ((l ++ [k]).any fun x => decide (x = j)) = l.any fun x => decide (x = j) := by
      rw [List.any_append, List.any_cons, List.any_nil, decide_eq_false h']
      simp
    rw [if_neg h, e]
theorem any_mem {l : List ByteArray} {k : ByteArray} : (l.any fun x => decide (x = k)) = true ↔ k ∈ l := by
  rw [List.any_eq_true]
  constructor
  · rintro ⟨x, hx, h⟩
    rw [decide_eq_true_eq] at h
    exact h ▸ hx
  · exact fun h => ⟨k, h, by simp⟩
theorem colK_snoc (ch : ByteArray → List Ver) (n : Int) (l : List ByteArray) (k : ByteArray) : colK ch n (l ++ [k]) = colK ch n l ++ if (trimP (ch k) n).isEmpty = true then [] else [k] := by
  unfold colK
  rw [List.filter_append]
  congr 1
  cases h : (trimP (ch k) n).isEmpty <;> simp [h]
theorem colK_len (ch : ByteArray → List Ver) (n : Int) (l : List ByteArray) : (colK ch n l).length ≤ l.length := List.length_filter_le _ _
theorem trim_sub {L : List Ver} {n : Int} {v : Ver} (h : v ∈ trimP L n) : v ∈ L := by
  unfold trimP at h
  split at h
  · rcases List.mem_append.1 h with h | h
    · exact (List.mem_filter.1 (mem_live h)).1
    · exact (List.mem_filter.1 h).1
  · cases h
theorem coll_inv {s : SP} {ks : List ByteArray} (h : Inv s ks) {n : Int} (h1 : s.floor ≤ n) (h2 : n ≤ s.last) : Inv ⟨fun k => trimP (s.ch k) n, s.last, n⟩ (colK s.ch n ks) := by
  refine ⟨List.Pairwise.sublist List.filter_sublist h.srt, fun k => ?_, fun k => trim_good (h.good k) n, fun k v hv => h.le k v (trim_sub hv), Int.le_trans h.fl h1, h2⟩
  unfold colK
  rw [List.mem_filter, h.mem k]
  constructor
  · rintro ⟨-, h3⟩
    intro e
    rw [show trimP (s.ch k) n = [] from e] at h3
    cases h3
  · intro h3
    refine ⟨fun e => h3 (by show trimP (s.ch k) n = []; rw [e]; rfl), ?_⟩
    cases hq : trimP (s.ch k) n with
    | nil => exact absurd hq h3
    | cons a b => rfl
theorem colC_all {s : SP} {ks : List ByteArray} (h : Inv s ks) (n : Int) : colC s.ch n ks = fun k => trimP (s.ch k) n := by
  funext k
  unfold colC
  by_cases hk : k ∈ ks
  · rw [if_pos (any_mem.2 hk)]
  · rw [if_neg (fun e => hk (any_mem.1 e))]
    have : s.ch k = [] := by
      cases hq : s.ch k with
      | nil => rfl
      | cons a b => exact absurd ((h.mem k).2 (by rw [hq]; simp)) hk
    rw [this]
    rfl
/-- What is kept while keys are collected. -/
structure ColI (w : World) (D M : Nat) (vk : Value) (ks : List ByteArray) (ch : ByteArray → List Ver) (la n : Int) (i : Nat) (vf : Value) (wr : World) : Prop where
  d : Blk wr D 39 (SB M vk la n)
  k : OwnG KE wr 0 9 vk ks
  m : MapC wr M (colC ch n (ks.take i)) ((colK ch n (ks.take i)).length + (ks.length - i))
  f : OwnG KE wr w.heap.size 9 vf (colK ch n (ks.take i))
  c : Chg (fun b => b = D ∨ b = M) w wr
theorem ColI.kept {w : World} {D M : Nat} {vk : Value} {ks : List ByteArray} {ch : ByteArray → List Ver} {la n : Int} {i : Nat} {vf : Value} {wr wr' : World} (h : ColI w D M vk ks ch la n i vf wr) (hb : Below wr.heap.size wr wr') : ColI w D M vk ks ch la n i vf wr' :=
  ⟨h.d.kept hb, h.k.kept hb, h.m.kept hb, h.f.kept hb, h.c.trans (Chg.of_below hb)⟩
end Go.Proofs.Ytgaoionnfkbhaab
