/-
  Texts that ride together: TrN TrB TrY TrI.
-/
import Derived.Test.YtooffljimdklfaaDoorG11a
import Derived.Test.YtooffljimdklfaaDoorG11r
import Derived.Great.FillDense
import Derived.Laws.Tables
import Derived.Lib.BitFns
/-
  Nodes and tries in memory: their cells, what a node stands for, what a call of Root may change.
-/
namespace Go.Proofs.YtooffljimdklfaaDoor
open Go.RowKit

/-- A struct literal, part by part. -/
theorem foldl_over (off : Nat) : ∀ (xs cs : List Value) (s : Nat), off + s + xs.length ≤ cs.length →
    ((xs.zipIdx s).foldl (fun (cs : Array Value) (x : Value × Nat) => cs.setIfInBounds (off + x.2) x.1) cs.toArray) = (over cs (off + s) xs).toArray
  | [], cs, s, _ => by simp [over]
  | x :: xs, cs, s, h => by
    rw [List.zipIdx_cons, List.foldl_cons, ← over_cons _ _ _ _ h, List.setIfInBounds_toArray]
    have := foldl_over off xs (cs.set (off + s) x) (s + 1) (by simp at h ⊢; omega)
    rw [this]
    rfl
theorem fill_row (place : Nat → Option (Nat × Nat)) (cs xs : List Value) (i off : Nat) (rest : List (Nat × Value)) (hp : place i = some (off, xs.length)) (hl : off + xs.length ≤ cs.length) :
    Instr.fill place cs.toArray ((i, .agg xs.toArray) :: rest) = Instr.fill place (over cs off xs).toArray rest := by
  have h := foldl_over off xs cs 0 (by omega)
  rw [Nat.add_zero] at h
  have h2 : (xs.toArray.zipIdx.foldl (fun (cs : Array Value) (x : Value × Nat) => cs.setIfInBounds (off + x.2) x.1) cs.toArray) = (over cs off xs).toArray := by
    rw [← h, ← Array.foldl_toList]
    simp
  have hc : (Value.agg xs.toArray).cells = xs.toArray := rfl
  rw [Instr.fill, hp]
  simp only
  rw [hc, if_neg (by simp; omega), ← h2]
theorem fill_one (place : Nat → Option (Nat × Nat)) (cs : List Value) (v : Value) (i off : Nat) (rest : List (Nat × Value)) (hv : v.cells = #[v]) (hp : place i = some (off, 1)) (hl : off + 1 ≤ cs.length) :
    Instr.fill place cs.toArray ((i, v) :: rest) = Instr.fill place (over cs off [v]).toArray rest := by
  have := fill_row place cs [v] i off rest hp hl
  conv at this => lhs; unfold Instr.fill
  conv => lhs; unfold Instr.fill
  rw [hv]
  exact this
/-- A node's cells: bit, key, value, sides, the Once (done, its lock), hash. -/
def NC (i : Int) (k v : Hs) (l r : Value) (d m : Int) (h : Hs) : List Value :=
  [.int .i64 i] ++ (By k.1 ++ (By v.1 ++ ([l, r, .int .u32 d, .int .i32 m, .int .u32 0] ++ By h.1)))
theorem NC_length (i : Int) (k v : Hs) (l r : Value) (d m : Int) (h : Hs) : (NC i k v l r d m h).length = 102 := by simp [NC, By_len]
theorem By_inj {a b : List UInt8} (h : By a = By b) : a = b := by
  unfold By at h
  refine List.map_inj_right (fun x y e => ?_) |>.1 h
  simp only [Value.int.injEq, true_and] at e
  exact UInt8.toNat_inj.1 (by exact_mod_cast e)
theorem NC_inj {i i' : Int} {k k' v v' : Hs} {l l' r r' : Value} {d d' m m' : Int} {h h' : Hs} (e : NC i k v l r d m h = NC i' k' v' l' r' d' m' h') : i = i' ∧ k = k' ∧ v = v' ∧ l = l' ∧ r = r' ∧ d = d' ∧ m = m' ∧ h = h' := by
  unfold NC at e
  obtain ⟨e0, e⟩ := List.append_inj e rfl
  obtain ⟨e1, e⟩ := List.append_inj e (by rw [By_len, By_len])
  obtain ⟨e2, e⟩ := List.append_inj e (by rw [By_len, By_len])
  obtain ⟨e3, e⟩ := List.append_inj e rfl
  simp only [List.cons.injEq, Value.int.injEq, true_and, and_true] at e0 e3
  exact ⟨e0, Subtype.ext (By_inj e1), Subtype.ext (By_inj e2), e3.1, e3.2.1, e3.2.2.1, e3.2.2.2, Subtype.ext (By_inj e)⟩
section
variable {w : World} {b : Nat} {T : TypeId} {i : Int} {k v : Hs} {l r : Value} {d m : Int} {h : Hs}
theorem NC.bit (hB : Blk w b T (NC i k v l r d m h)) : w.cell? ⟨b, 0, none⟩ = some (.int .i64 i) := hB.cell (by simp [NC])
theorem NC.key (hB : Blk w b T (NC i k v l r d m h)) : w.rangeAt b 1 (By k.1) := hB.range 1 _ fun j u hj => by
  have hl := (List.getElem?_eq_some_iff.1 hj).1
  unfold NC
  rw [List.getElem?_append_right (by simp), List.getElem?_append_left (by simp; omega)]
  simpa using hj
theorem NC.value (hB : Blk w b T (NC i k v l r d m h)) : w.rangeAt b 33 (By v.1) := hB.range 33 _ fun j u hj => by
  have hl := (List.getElem?_eq_some_iff.1 hj).1
  unfold NC
  rw [By_len] at hl
  rw [List.getElem?_append_right (by simp; omega), List.getElem?_append_right (by rw [By_len]; simp only [List.length_cons, List.length_nil]; omega), List.getElem?_append_left (by rw [By_len, By_len]; simp only [List.length_cons, List.length_nil]; omega)]
  rw [By_len, ← hj]
  congr 1
  simp only [List.length_cons, List.length_nil]
  omega
theorem NC.mid (hB : Blk w b T (NC i k v l r d m h)) {j : Nat} {u : Value} (hj : ([l, r, .int .u32 d, .int .i32 m, .int .u32 0] : List Value)[j]? = some u) : w.cell? ⟨b, 65 + j, none⟩ = some u := hB.cell (by
  have hl := (List.getElem?_eq_some_iff.1 hj).1
  unfold NC
  rw [List.getElem?_append_right (by simp; omega), List.getElem?_append_right (by rw [By_len]; simp; omega), List.getElem?_append_right (by rw [By_len, By_len]; simp; omega), List.getElem?_append_left (by rw [By_len, By_len]; simp at hl ⊢; omega)]
  rw [By_len, By_len, ← hj]
  congr 1
  simp
  omega)
theorem NC.left (hB : Blk w b T (NC i k v l r d m h)) : w.cell? ⟨b, 65, none⟩ = some l := NC.mid hB (j := 0) rfl
theorem NC.right (hB : Blk w b T (NC i k v l r d m h)) : w.cell? ⟨b, 66, none⟩ = some r := NC.mid hB (j := 1) rfl
theorem NC.done (hB : Blk w b T (NC i k v l r d m h)) : w.cell? ⟨b, 67, none⟩ = some (.int .u32 d) := NC.mid hB (j := 2) rfl
theorem NC.lock (hB : Blk w b T (NC i k v l r d m h)) : w.cell? ⟨b, 68, none⟩ = some (.int .i32 m) := NC.mid hB (j := 3) rfl
theorem NC.hash (hB : Blk w b T (NC i k v l r d m h)) : w.rangeAt b 70 (By h.1) := hB.range 70 _ fun j u hj => by
  have hl := (List.getElem?_eq_some_iff.1 hj).1
  unfold NC
  rw [List.getElem?_append_right (by simp; omega), List.getElem?_append_right (by rw [By_len]; simp; omega), List.getElem?_append_right (by rw [By_len, By_len]; simp; omega), List.getElem?_append_right (by rw [By_len, By_len]; simp; omega)]
  rw [By_len, By_len, ← hj]
  congr 1
  simp
  omega
theorem NC.setHash (h' : Hs) : over (NC i k v l r d m h) 70 (By h'.1) = NC i k v l r d m h' := by
  unfold over
  rw [By_len, List.drop_of_length_le (by rw [NC_length]; decide), List.append_nil]
  have e : NC i k v l r d m h = ([.int .i64 i] ++ By k.1 ++ By v.1 ++ [l, r, .int .u32 d, .int .i32 m, .int .u32 0]) ++ By h.1 := by simp [NC]
  rw [e, List.take_left' (by simp [By_len])]
  simp [NC]
theorem NC.setKey (k' : Hs) : over (NC i k v l r d m h) 1 (By k'.1) = NC i k' v l r d m h := by
  unfold over
  rw [By_len]
  unfold NC
  have e1 : ([Value.int .i64 i] ++ (By k.1 ++ (By v.1 ++ ([l, r, .int .u32 d, .int .i32 m, .int .u32 0] ++ By h.1)))).take 1 = [.int .i64 i] := rfl
  have e2 : ([Value.int .i64 i] ++ (By k.1 ++ (By v.1 ++ ([l, r, .int .u32 d, .int .i32 m, .int .u32 0] ++ By h.1)))).drop (1 + 32) = By v.1 ++ ([l, r, .int .u32 d, .int .i32 m, .int .u32 0] ++ By h.1) := by
    rw [← List.append_assoc, List.drop_left' (by simp [By_len])]
  rw [e1, e2]
  simp
theorem NC.setValue (v' : Hs) : over (NC i k v l r d m h) 33 (By v'.1) = NC i k v' l r d m h := by
  unfold over
  rw [By_len]
  have e : NC i k v l r d m h = ([.int .i64 i] ++ By k.1) ++ (By v.1 ++ ([l, r, .int .u32 d, .int .i32 m, .int .u32 0] ++ By h.1)) := by simp [NC]
  have e1 : (NC i k v l r d m h).take 33 = [.int .i64 i] ++ By k.1 := by rw [e, List.take_left' (by simp [By_len])]
  have e2 : (NC i k v l r d m h).drop (33 + 32) = [l, r, .int .u32 d, .int .i32 m, .int .u32 0] ++ By h.1 := by
    rw [e, ← List.append_assoc, List.drop_left' (by simp [By_len])]
  rw [e1, e2]
  simp [NC]
theorem NC.setMid (j : Nat) (u : Value) : j < 5 → (NC i k v l r d m h).set (65 + j) u = [.int .i64 i] ++ (By k.1 ++ (By v.1 ++ (([l, r, .int .u32 d, .int .i32 m, .int .u32 0] : List Value).set j u ++ By h.1))) := by
  intro hj
  unfold NC
  rw [List.set_append_right _ _ (by simp; omega), List.set_append_right _ _ (by rw [By_len]; simp; omega), List.set_append_right _ _ (by rw [By_len, By_len]; simp; omega), List.set_append_left _ _ (by rw [By_len, By_len]; simp; omega)]
  rw [By_len, By_len, show 65 + j - [Value.int .i64 i].length - 32 - 32 = j by simp only [List.length_cons, List.length_nil]; omega]
theorem NC.setBit (i' : Int) : over (NC i k v l r d m h) 0 [.int .i64 i'] = NC i' k v l r d m h := by simp [over, NC]
theorem NC.setLeft (l' : Value) : (NC i k v l r d m h).set 65 l' = NC i k v l' r d m h := NC.setMid 0 l' (by decide)
theorem NC.setRight (r' : Value) : (NC i k v l r d m h).set 66 r' = NC i k v l r' d m h := NC.setMid 1 r' (by decide)
theorem NC.setDone (d' : Int) : (NC i k v l r d m h).set 67 (.int .u32 d') = NC i k v l r d' m h := NC.setMid 2 _ (by decide)
theorem NC.setLock (m' : Int) : (NC i k v l r d m h).set 68 (.int .i32 m') = NC i k v l r d m' h := NC.setMid 3 _ (by decide)
end
/-- A node that is nothing yet. -/
abbrev NC0 : List Value := NC 0 zh zh (.pointer none) (.pointer none) 0 0 zh
/-- What the node at block b is, where X tells it of the nodes below. -/
def NdStep (B0 : Nat) (w : World) (X : Nat → List It → Prop) (b : Nat) (L : List It) : Prop :=
  B0 ≤ b ∧ ∃ (i : Nat) (k v : Hs) (l r : Value) (d : Int) (h : Hs), Blk w b 101 (NC i k v l r d 0 h) ∧ (d = 0 ∨ (d = 1 ∧ h = rootP L)) ∧
    ((L = [(k, v)] ∧ i = 256 ∧ l = .pointer none ∧ r = .pointer none) ∨
      ∃ (A B : List It) (bl br : Nat), Forks L i A B ∧ A.head?.map (·.1) = some k ∧ bl < b ∧ br < b ∧ l = .pointer (some ⟨bl, 0, none⟩) ∧ r = .pointer (some ⟨br, 0, none⟩) ∧ X bl A ∧ X br B)
def NdF (B0 : Nat) (w : World) : Nat → Nat → List It → Prop
  | 0, _, _ => False
  | n + 1, b, L => NdStep B0 w (NdF B0 w n) b L
/-- The node at block b stands for the map L; all nodes lie from block B0 on. -/
def Nd (B0 : Nat) (w : World) (b : Nat) (L : List It) : Prop := NdF B0 w (b + 1) b L
theorem NdStep.mono {B0 : Nat} {w : World} {X Y : Nat → List It → Prop} {b : Nat} {L : List It} (h : NdStep B0 w X b L) (hXY : ∀ c M, c < b → X c M → Y c M) : NdStep B0 w Y b L := by
  obtain ⟨h0, i, k, v, l, r, d, h, hB, hd, h1⟩ := h
  refine ⟨h0, i, k, v, l, r, d, h, hB, hd, ?_⟩
  rcases h1 with h1 | ⟨A, B, bl, br, hF, hk, hl, hr, el, er, hA, hB⟩
  · exact .inl h1
  · exact .inr ⟨A, B, bl, br, hF, hk, hl, hr, el, er, hXY _ _ hl hA, hXY _ _ hr hB⟩
theorem NdF.any {B0 : Nat} {w : World} : ∀ {n m b : Nat} {L : List It}, NdF B0 w n b L → b < m → NdF B0 w m b L
  | 0, _, _, _, h, _ => h.elim
  | n + 1, m + 1, b, L, h, hm => NdStep.mono h fun c M hc hx => NdF.any hx (by omega)
theorem Nd.iff {B0 : Nat} {w : World} {b : Nat} {L : List It} : Nd B0 w b L ↔ NdStep B0 w (Nd B0 w) b L :=
  ⟨fun h => NdStep.mono h fun c M hc hx => NdF.any hx (by omega), fun h => NdStep.mono h fun c M hc hx => NdF.any hx (by omega)⟩
theorem Nd.ge {B0 : Nat} {w : World} {b : Nat} {L : List It} (h : Nd B0 w b L) : B0 ≤ b := (Nd.iff.1 h).1
theorem Nd.blk {B0 : Nat} {w : World} {b : Nat} {L : List It} (h : Nd B0 w b L) : ∃ cs, Blk w b 101 cs := by
  obtain ⟨-, i, k, v, l, r, d, h, hB, -⟩ := Nd.iff.1 h
  exact ⟨_, hB⟩
theorem Nd.lt {B0 : Nat} {w : World} {b : Nat} {L : List It} (h : Nd B0 w b L) : b < w.heap.size := by
  obtain ⟨_, hB⟩ := h.blk
  exact hB.lt
theorem Blk.inj {w : World} {b : Nat} {T T' : TypeId} {cs cs' : List Value} (h : Blk w b T cs) (h' : Blk w b T' cs') : T = T' ∧ cs = cs' := by
  have := h.symm.trans h'
  simp only [Option.some.injEq, Obj.cells.injEq] at this
  refine ⟨this.2.1, ?_⟩
  have e := congrArg Array.toList this.1
  simpa using e
theorem Nd.uniq {B0 : Nat} {w : World} : ∀ {b : Nat} {L L' : List It}, Nd B0 w b L → Nd B0 w b L' → L = L' := by
  intro b
  induction b using Nat.strongRecOn with
  | _ b ih =>
    intro L L' h h'
    obtain ⟨-, i, k, v, l, r, d, hh, hB, -, h1⟩ := Nd.iff.1 h
    obtain ⟨-, i', k', v', l', r', d', hh', hB', -, h1'⟩ := Nd.iff.1 h'
    obtain ⟨_, rfl, rfl, rfl, rfl, _⟩ := NC_inj (hB.inj hB').2
    rcases h1 with ⟨rfl, _, e, _⟩ | ⟨A, B, bl, br, hF, hk, hl, hr, el, er, hA, hBb⟩
    · rcases h1' with ⟨rfl, _⟩ | ⟨_, _, bl', _, _, _, _, _, el', _⟩
      · rfl
      · rw [e] at el'; cases el'
    · rcases h1' with ⟨_, _, e, _⟩ | ⟨A', B', bl', br', hF', _, _, _, el', er', hA', hBb'⟩
      · rw [e] at el; cases el
      · rw [el] at el'
        rw [er] at er'
        simp only [Value.pointer.injEq, Option.some.injEq, Addr.mk.injEq, and_true] at el' er'
        subst el'
        subst er'
        rw [hF.eq, hF'.eq, ih _ hl hA hA', ih _ hr hBb hBb']
theorem Nd.srt {B0 : Nat} {w : World} : ∀ {b : Nat} {L : List It}, Nd B0 w b L → Srt L ∧ L ≠ [] := by
  intro b
  induction b using Nat.strongRecOn with
  | _ b ih =>
    intro L h
    obtain ⟨-, i, k, v, l, r, d, hh, hB, -, h1⟩ := Nd.iff.1 h
    rcases h1 with ⟨rfl, _⟩ | ⟨A, B, bl, br, hF, hk, hl, hr, el, er, hA, hBb⟩
    · exact ⟨Srt_one _, by simp⟩
    · exact ⟨hF.srt (ih _ hl hA).1 (ih _ hr hBb).1, hF.ne⟩
/-- w' is w, but that nodes may have their hash now; new blocks may be there. -/
structure Tch (B0 : Nat) (w w' : World) : Prop where
  os : w'.os = w.os
  tape : w'.tape = w.tape
  output : w'.output = w.output
  size : w.heap.size ≤ w'.heap.size
  block : ∀ k, k < w.heap.size → w'.heap[k]? = w.heap[k]? ∨ ∃ L, Nd B0 w k L ∧ Nd B0 w' k L
theorem NdStep.blkEq {B0 : Nat} {w w' : World} {X : Nat → List It → Prop} {b : Nat} {L : List It} (h : NdStep B0 w X b L) (e : w'.heap[b]? = w.heap[b]?) : NdStep B0 w' X b L := by
  obtain ⟨h0, i, k, v, l, r, d, h, hB, hd, h1⟩ := h
  exact ⟨h0, i, k, v, l, r, d, h, e.trans hB, hd, h1⟩
theorem Tch.iff {B0 : Nat} {w w' : World} (h : Tch B0 w w') : ∀ {k : Nat}, k < w.heap.size → ∀ L, Nd B0 w k L ↔ Nd B0 w' k L := by
  intro k
  induction k using Nat.strongRecOn with
  | _ k ih =>
    intro hk L
    rcases h.block k hk with e | ⟨L0, h1, h2⟩
    · constructor
      · intro hn
        exact Nd.iff.2 ((NdStep.mono (Nd.iff.1 hn) (fun c M hc hx => (ih c hc (by omega) M).1 hx)).blkEq e)
      · intro hn
        exact Nd.iff.2 ((NdStep.mono (Nd.iff.1 hn) (fun c M hc hx => (ih c hc (by omega) M).2 hx)).blkEq e.symm)
    · constructor
      · intro hn; rw [hn.uniq h1]; exact h2
      · intro hn; rw [hn.uniq h2]; exact h1
theorem Tch.nd {B0 : Nat} {w w' : World} (h : Tch B0 w w') {b : Nat} {L : List It} (hn : Nd B0 w b L) : Nd B0 w' b L := (h.iff hn.lt L).1 hn
theorem Tch.of_below {B0 : Nat} {w w' : World} (h : Below w.heap.size w w') : Tch B0 w w' := ⟨h.os, h.tape, h.output, h.size, fun k hk => .inl (h.block k hk)⟩
theorem Tch.refl (B0 : Nat) (w : World) : Tch B0 w w := .of_below (Below.refl _ _)
theorem Tch.trans {B0 : Nat} {x y z : World} (h : Tch B0 x y) (k : Tch B0 y z) : Tch B0 x z := by
  refine ⟨k.os.trans h.os, k.tape.trans h.tape, k.output.trans h.output, Nat.le_trans h.size k.size, fun i hi => ?_⟩
  have hi' : i < y.heap.size := Nat.lt_of_lt_of_le hi h.size
  rcases h.block i hi with e1 | ⟨L, a1, a2⟩
  · rcases k.block i hi' with e2 | ⟨L, b1, b2⟩
    · exact .inl (e2.trans e1)
    · exact .inr ⟨L, (h.iff hi L).2 b1, b2⟩
  · exact .inr ⟨L, a1, k.nd a2⟩
theorem Tch.ok (B0 : Nat) : RelOk (Tch B0) := ⟨Tch.refl B0, Tch.trans, Tch.of_below⟩
theorem Nd.kept {B0 : Nat} {w w' : World} (h : Below w.heap.size w w') {b : Nat} {L : List It} (hn : Nd B0 w b L) : Nd B0 w' b L := (Tch.of_below h).nd hn
theorem Tch.blk {B0 : Nat} {w w' : World} (h : Tch B0 w w') {b : Nat} {T : TypeId} {cs : List Value} (hB : Blk w b T cs) (hT : T ≠ 101) : Blk w' b T cs := by
  rcases h.block b hB.lt with e | ⟨L, a1, _⟩
  · exact e.trans hB
  · obtain ⟨_, hN⟩ := a1.blk
    exact absurd (hB.inj hN).1 hT
theorem Tch.below {B0 : Nat} {w w' : World} (h : Tch B0 w w') (hB : B0 ≤ w.heap.size) : Below B0 w w' := ⟨h.os, h.tape, h.output, h.size, fun k hk => by
  rcases h.block k (by omega) with e | ⟨L, a1, _⟩
  · exact e
  · have := a1.ge; omega⟩
theorem Tabs.tch {B0 : Nat} {w w' : World} (hT : Tabs w) (h : Tch B0 w w') (h2 : 2 ≤ B0) (hB : B0 ≤ w.heap.size) : Tabs w' := hT.kept ((h.below hB).mono h2)
/-- A trie at block p that has the map L. -/
def TrieAt (B0 : Nat) (w : World) (p : Nat) (L : List It) : Prop :=
  ∃ top, Blk w p 60 [.bool true, top, .int .i64 L.length] ∧ Srt L ∧ ((L = [] ∧ top = .pointer none) ∨ ∃ b, top = .pointer (some ⟨b, 0, none⟩) ∧ Nd B0 w b L)
theorem TrieAt.tch {B0 : Nat} {w w' : World} {p : Nat} {L : List It} (h : TrieAt B0 w p L) (ht : Tch B0 w w') : TrieAt B0 w' p L := by
  obtain ⟨top, hB, hs, h1⟩ := h
  refine ⟨top, ht.blk hB (by decide), hs, ?_⟩
  rcases h1 with h1 | ⟨b, e, hn⟩
  · exact .inl h1
  · exact .inr ⟨b, e, ht.nd hn⟩
theorem TrieAt.kept {B0 : Nat} {w w' : World} {p : Nat} {L : List It} (h : TrieAt B0 w p L) (hb : Below w.heap.size w w') : TrieAt B0 w' p L := h.tch (.of_below hb)
theorem TrieAt.srt {B0 : Nat} {w : World} {p : Nat} {L : List It} (h : TrieAt B0 w p L) : Srt L := by obtain ⟨_, _, hs, _⟩ := h; exact hs
theorem TrieAt.lt {B0 : Nat} {w : World} {p : Nat} {L : List It} (h : TrieAt B0 w p L) : p < w.heap.size := by obtain ⟨_, hB, _⟩ := h; exact hB.lt
theorem RdG.tchLow {α : Type} {E : Enc α} {B0 : Nat} {w w' : World} {v : Value} {L : List α} (h : RdG E w v L) (ht : Tch B0 w w') (hB : B0 ≤ w.heap.size) (hv : ∀ b, InB v b → b < B0) : RdG E w' v L :=
  h.chg (F := fun k => B0 ≤ k) ⟨ht.os, ht.tape, ht.output, ht.size, fun k _ hk => (ht.below hB).block k (by omega)⟩ (fun b hb => by have := hv b hb; omega)
theorem OwnG.tch {α : Type} {E : Enc α} {B0 : Nat} {w w' : World} {B : Nat} {e : TypeId} {v : Value} {L : List α} (h : OwnG E w B e v L) (ht : Tch B0 w w') (he : e ≠ 101) : OwnG E w' B e v L := by
  obtain ⟨h1, h2⟩ := h
  refine ⟨h1, ?_⟩
  rcases h2 with h2 | ⟨g, cap, cur, hv, hg, hh, r⟩
  · exact Or.inl h2
  · refine Or.inr ⟨g, cap, cur, hv, hg, ?_, r⟩
    have := ht.blk (b := g) (T := e) (cs := cur.toList) (by simpa [Blk] using hh) he
    simpa [Blk] using this
#print axioms Tch.trans
end Go.Proofs.YtooffljimdklfaaDoor

/-
  Bits of keys, and where two part: package trie's calls and the reference's.
-/
namespace Go.Proofs.YtooffljimdklfaaDoor
open Go.RowKit

/-- A whole array or struct is loaded, where the operation is wanted. -/
theorem wpList_load_w9 {P : Program} {ops : Array Oper} {rest : List Oper} {o : Oper} {a : Act} {w : World} {Q : Exit → Act → World → Prop} (hw : Region.wanted o (yielded ops a.tmps) = true) (ty : TypeId) (x : Operand) (ho : o.op = .load ty x)
    (b off : Nat) (hx : a.eval x = .pointer (some ⟨b, off, none⟩)) (cs : List Value) (d : TypeDesc) (hc : w.rangeAt b off cs) (hu : P.underlying ty = some d) (hd : d.isRow = true) (hi : (P.info? ty).map (·.size) = some cs.length)
    (h : wpList P ops Q rest (a.put o.dst (.agg cs.toArray)) w) : wpList P ops Q (o :: rest) a w := by
  refine wpList_step fun K hK => ?_
  rw [if_pos hw]
  unfold Oper.wp execOp
  simp only [ho, hx, Sem.run_bind, Sem.run_pure, Result.andThen_ok, run_loadAt_mid w b off ty cs d hc hu hd hi]
  exact hK _ _ h
/-- What Bit tells. -/
def bitN (k : Hs) (i : Nat) : Int := if bit k i then 1 else 0
def bitZ (k : Hs) (i : Int) : Int := if 0 ≤ i ∧ i < 256 then bitN k i.toNat else 0
theorem bitZ_nat (k : Hs) (i : Nat) : bitZ k (i : Int) = bitN k i := by
  unfold bitZ
  by_cases h : i < 256
  · rw [if_pos (by omega)]; rfl
  · rw [if_neg (by omega), bitN, bit_none (by omega)]; rfl
/-- The lowest bit. -/
theorem and_one (z : Int) : bits .and .i64 z 1 = z % 2 := by
  have e1 : (BitVec.ofInt 64 1).toNat = 2 ^ 1 - 1 := by decide
  have e : (BitVec.ofInt 64 z &&& BitVec.ofInt 64 1).toNat = (z % ((2 ^ 64 : Nat) : Int)).toNat % 2 ^ 1 := by
    rw [BitVec.toNat_and, BitVec.toNat_ofInt, e1, Nat.and_two_pow_sub_one_eq_mod]
  show IntKind.i64.wrap (((BitVec.ofInt 64 z &&& BitVec.ofInt 64 1).toNat : Nat) : Int) = z % 2
  rw [e, IntKind.wrap_i64]
  omega
theorem bit_of {k : Hs} {n : Nat} {x : UInt8} (hx : k.1[n / 8]? = some x) : bits .and .i64 (wrap64 ((x.toNat : Int) / 2 ^ (7 - n % 8))) 1 = bitN k n := by
  rw [and_one]
  have e : ((x.toNat : Int) / 2 ^ (7 - n % 8)) = ((x.toNat / 2 ^ (7 - n % 8) : Nat) : Int) := by
    rw [show (2 : Int) ^ (7 - n % 8) = ((2 ^ (7 - n % 8) : Nat) : Int) from (Int.natCast_pow 2 _).symm]
    exact (Int.natCast_ediv _ _).symm
  have hle : x.toNat / 2 ^ (7 - n % 8) ≤ x.toNat := Nat.div_le_self _ _
  have hlt := x.toNat_lt
  rw [e]
  unfold bitN bit
  rw [hx, Option.getD_some, Nat.testBit_eq_decide_div_mod_eq]
  generalize x.toNat / 2 ^ (7 - n % 8) = y at *
  have hw : wrap64 (y : Int) = y := by unfold wrap64; omega
  rw [hw]
  by_cases h : y % 2 = 1
  · rw [decide_eq_true h, if_pos rfl]; omega
  · rw [decide_eq_false h, if_neg (by decide)]; omega
set_option maxHeartbeats 1000000 in
set_option maxRecDepth 100000 in
theorem kBit_any (k : Hs) (i : Int) (w : World) : Calls Tryd.prog 38 #[HV k, .int .i64 i] w fun e w' => e = .returned (.int .i64 (bitZ k i)) ∧ Below w.heap.size w w' := by
  by_cases h : 0 ≤ i ∧ i < 256
  · obtain ⟨n, rfl⟩ : ∃ n : Nat, i = n := ⟨i.toNat, by omega⟩
    have hn : n < 256 := by omega
    rw [bitZ_nat]
    unfold HV
    obtain ⟨x, hx⟩ : ∃ x : UInt8, k.1[n / 8]? = some x := ⟨_, List.getElem?_eq_getElem (by rw [k.2]; omega)⟩
    have hc : (By k.1)[n / 8]? = some (.int .u8 (x.toNat : Int)) := by simp [By, hx]
    have HX := hide hx
    clear hx h
    have q1 : ¬ (n : Int) < 0 := by omega
    have q2 : ¬ (256 : Int) ≤ n := by omega
    have q3 : ¬ 256 ≤ n := by omega
    go_enter Tryd.func38, Tryd.ntmps38
    go_wp2
    go_ret
    exact ⟨congrArg Ending.returned (congrArg (Value.int IntKind.i64) (bit_of HX.out)), (Below.refl _ _).alloc (Nat.le_refl _) _⟩
  · have e : bitZ k i = 0 := if_neg h
    rw [e]
    unfold HV
    by_cases h1 : i < 0
    · go_enter Tryd.func38, Tryd.ntmps38
      go_wp2
      go_ret
      exact ⟨rfl, (Below.refl _ _).alloc (Nat.le_refl _) _⟩
    · have h2 : 256 ≤ i := by omega
      go_enter Tryd.func38, Tryd.ntmps38
      go_wp2
      go_ret
      exact ⟨rfl, (Below.refl _ _).alloc (Nat.le_refl _) _⟩
set_option maxHeartbeats 1000000 in
set_option maxRecDepth 100000 in
theorem yBit_any (k : Hs) (i : Int) (w : World) : Calls Tryd.prog 31 #[HV k, .int .i64 i] w fun e w' => e = .returned (.int .i64 (bitZ k i)) ∧ Below w.heap.size w w' := by
  by_cases h : 0 ≤ i ∧ i < 256
  · obtain ⟨n, rfl⟩ : ∃ n : Nat, i = n := ⟨i.toNat, by omega⟩
    have hn : n < 256 := by omega
    rw [bitZ_nat]
    unfold HV
    obtain ⟨x, hx⟩ : ∃ x : UInt8, k.1[n / 8]? = some x := ⟨_, List.getElem?_eq_getElem (by rw [k.2]; omega)⟩
    have hc : (By k.1)[n / 8]? = some (.int .u8 (x.toNat : Int)) := by simp [By, hx]
    have HX := hide hx
    clear hx h
    have q1 : ¬ (n : Int) < 0 := by omega
    have q2 : ¬ (255 : Int) < n := by omega
    have q3 : ¬ 255 < n := by omega
    go_enter Tryd.func31, Tryd.ntmps31
    go_wp2
    go_ret
    exact ⟨congrArg Ending.returned (congrArg (Value.int IntKind.i64) (bit_of HX.out)), (Below.refl _ _).alloc (Nat.le_refl _) _⟩
  · have e : bitZ k i = 0 := if_neg h
    rw [e]
    unfold HV
    by_cases h1 : i < 0
    · go_enter Tryd.func31, Tryd.ntmps31
      go_wp2
      go_ret
      exact ⟨rfl, (Below.refl _ _).alloc (Nat.le_refl _) _⟩
    · have h2 : 255 < i := by omega
      go_enter Tryd.func31, Tryd.ntmps31
      go_wp2
      go_ret
      exact ⟨rfl, (Below.refl _ _).alloc (Nat.le_refl _) _⟩
/-- How many noughts a byte begins with. -/
def lz (x : Nat) : Nat := 8 - Lib.bitLen x
theorem lz_all : ∀ x : Fin 256, x.val ≠ 0 → Lib.bitLen x.val ≤ 8 ∧ lz x.val < 8 ∧ x.val.testBit (7 - lz x.val) = true ∧ ∀ j : Fin 8, j.val < lz x.val → x.val.testBit (7 - j.val) = false := by decide +kernel
set_option maxHeartbeats 1000000 in
set_option maxRecDepth 100000 in
theorem lz8_any (x : Int) (h0 : 0 ≤ x) (h1 : x ≤ 255) (w : World) : Calls Tryd.prog 71 #[.int .u8 x] w fun e w' => e = .returned (.int .i64 (8 - (Lib.bitLen x.toNat : Int))) ∧ w' = w := by
  have hb : Lib.bitLen x.toNat ≤ 8 := by
    by_cases hz : x.toNat = 0
    · rw [hz]; decide
    · exact (lz_all ⟨x.toNat, by omega⟩ hz).1
  have C : Hid (∀ w : World, Calls Tryd.prog 81 #[.int .u8 x] w fun e w' => e = .returned (.int .i64 (Lib.bitLen x.toNat : Int)) ∧ w' = w) := (show _ from fun w => by
    have hl := Lib.len8_of x h0 h1
    go_enter Tryd.func81, Tryd.ntmps81
    go_wp2
    go_ret
    refine ⟨congrArg Ending.returned (congrArg (Value.int IntKind.i64) ?_), rfl⟩
    rfl)
  generalize Lib.bitLen x.toNat = y at *
  go_enter Tryd.func71, Tryd.ntmps71
  go_wp2_with (go_at_call 81; refine (C.out _).mono ?_; rintro e w' ⟨rfl, rfl⟩)
  go_ret
  exact ⟨rfl, rfl⟩
theorem u8_xor (x y : UInt8) : bits .xor .u8 (x.toNat : Int) (y.toNat : Int) = ((x ^^^ y).toNat : Int) := by
  have hx : (BitVec.ofInt 8 (x.toNat : Int)) = x.toBitVec := by simp
  have hy : (BitVec.ofInt 8 (y.toNat : Int)) = y.toBitVec := by simp
  show IntKind.u8.wrap (((BitVec.ofInt 8 (x.toNat : Int) ^^^ BitVec.ofInt 8 (y.toNat : Int)).toNat : Nat) : Int) = _
  rw [hx, hy, ← UInt8.toBitVec_xor]
  have := (x ^^^ y).toNat_lt
  show IntKind.u8.wrap (((x ^^^ y).toNat : Nat) : Int) = ((x ^^^ y).toNat : Int)
  generalize (x ^^^ y).toNat = z at *
  simp only [IntKind.wrap, IntKind.signed, IntKind.bits]
  simp
  omega
theorem xor_zero {x y : UInt8} : (x ^^^ y).toNat = 0 ↔ x = y := by
  constructor
  · intro h
    have h1 : x ^^^ y = 0 := UInt8.toNat_inj.1 h
    exact UInt8.xor_eq_zero_iff.1 h1
  · rintro rfl; simp
theorem apart_byte {a b : Hs} {i : Nat} {x y : UInt8} (hi : i < 32) (he : ∀ j, j < i → a.1[j]? = b.1[j]?) (hx : a.1[i]? = some x) (hy : b.1[i]? = some y) (hne : (x ^^^ y).toNat ≠ 0) : apart a b = 8 * i + lz (x ^^^ y).toNat := by
  obtain ⟨_, h1, h2, h3⟩ := lz_all ⟨(x ^^^ y).toNat, (x ^^^ y).toNat_lt⟩ hne
  simp only at h1 h2 h3
  have hb : ∀ j, j < 8 → (x ^^^ y).toNat.testBit (7 - j) = (bit a (8 * i + j) ^^ bit b (8 * i + j)) := fun j hj => by
    unfold bit
    rw [show (8 * i + j) / 8 = i by omega, show (8 * i + j) % 8 = j by omega, hx, hy]
    simp [Nat.testBit_xor]
  refine apart_uniq (by omega) (fun j hj => ?_) (fun _ => ?_)
  · by_cases hji : j < 8 * i
    · unfold bit
      rw [he (j / 8) (by omega)]
    · have e := hb (j - 8 * i) (by omega)
      rw [h3 ⟨j - 8 * i, by omega⟩ (by simp only; omega), show 8 * i + (j - 8 * i) = j by omega] at e
      generalize bit a j = p1 at e
      generalize bit b j = p2 at e
      revert e
      cases p1 <;> cases p2 <;> decide
  · have e := hb (lz (x ^^^ y).toNat) h1
    rw [h2] at e
    generalize 8 * i + lz (x ^^^ y).toNat = q at *
    intro e2
    rw [e2, Bool.xor_self] at e
    cases e
set_option maxHeartbeats 2000000 in
set_option maxRecDepth 100000 in
theorem kApart_any (a b : Hs) (w : World) : Calls Tryd.prog 59 #[HV a, HV b] w fun e w' => e = .returned (.int .i64 (apart a b : Int)) ∧ Below w.heap.size w w' := by
  unfold HV
  obtain ⟨q, HQ⟩ : ∃ q, Hid (apart a b = q) := ⟨_, rfl⟩
  rw [HQ.out]
  obtain ⟨N, HN⟩ : ∃ N, Hid (w.heap.size = N) := ⟨_, rfl⟩
  go_enter Tryd.func59, Tryd.ntmps59
  go_wp2
  obtain ⟨w1, hw1⟩ : ∃ z, z = (w.alloc (.cells (By a.1).toArray 24 (0, 0))).alloc (.cells (By b.1).toArray 24 (0, 0)) := ⟨_, rfl⟩
  change Code.wp _ _ _ _ ((w.alloc (.cells (By a.1).toArray 24 (0, 0))).alloc (.cells (By b.1).toArray 24 (0, 0)))
  rw [← hw1, HN.out]
  have B1 : Hid (Blk w1 N 24 (By a.1)) := (show Blk _ _ _ _ by rw [hw1, ← HN.out]; exact (Blk.new w 24 (By a.1)).alloc _)
  have B2 : Hid (Blk w1 (N + 1) 24 (By b.1)) := (show Blk _ _ _ _ by rw [hw1, ← HN.out]; have := Blk.new (w.alloc (.cells (By a.1).toArray 24 (0, 0))) 24 (By b.1); simpa using this)
  have L1 : Hid (Below N w w1) := (show Below _ _ _ by rw [hw1, ← HN.out]; exact ((Below.refl _ _).alloc (Nat.le_refl _) _).alloc (by simp) _)
  clear hw1
  go_loopg [7] 33 (fun g z wr => ∃ i : Nat, i ≤ 32 ∧ g + i = 33 ∧ z = .int .i64 (i : Int) ∧ Hid (Below N w wr) ∧ Hid (Blk wr N 24 (By a.1)) ∧ Hid (Blk wr (N + 1) 24 (By b.1)) ∧ Hid (∀ j, j < i → a.1[j]? = b.1[j]?))
  case atStart => exact ⟨0, by omega, by omega, rfl, L1, B1, B2, (show _ from fun j hj => by omega)⟩
  case round =>
    obtain ⟨i, hi, hgi, rfl, LR, R1, R2, HE⟩ := hrel
    by_cases hlt : i < 32
    · obtain ⟨x, hx⟩ : ∃ x : UInt8, a.1[i]? = some x := ⟨_, List.getElem?_eq_getElem (by rw [a.2]; omega)⟩
      obtain ⟨y, hy⟩ : ∃ y : UInt8, b.1[i]? = some y := ⟨_, List.getElem?_eq_getElem (by rw [b.2]; omega)⟩
      have cx : wr.cell? ⟨N, i, none⟩ = some (.int .u8 (x.toNat : Int)) := R1.out.cell (by simp [By, hx])
      have cy : wr.cell? ⟨N + 1, i, none⟩ = some (.int .u8 (y.toNat : Int)) := R2.out.cell (by simp [By, hy])
      have q2 : (i : Int) < 32 := by omega
      have q3 : ¬ (32 : Int) ≤ i := by omega
      have q4 : ¬ 32 ≤ i := by omega
      obtain ⟨z, HZ⟩ : ∃ z, Hid (x.toNat ^^^ y.toNat = z) := ⟨_, rfl⟩
      have HZ2 : Hid ((x ^^^ y).toNat = z) := (show _ = _ by rw [UInt8.toNat_xor]; exact HZ.out)
      have hz1 : z ≤ 255 := by have := (x ^^^ y).toNat_lt; rw [HZ2.out] at this; omega
      have HX := hide hx
      have HY := hide hy
      clear hx hy
      go_upto_region 4 with fail
      go_quiet (fail)
      rw [u8_xor x y, HZ2.out]
      by_cases h0 : z = 0
      · subst h0
        have HXY : Hid (x = y) := xor_zero.1 HZ2.out
        go_wp2
        go_roundg (33 - (i + 1))
        case measure => omega
        case rel =>
          refine ⟨i + 1, by omega, by omega, rfl, LR.out.trans (below_drewN _ _ _), R1.out.drewN _, R2.out.drewN _, (show _ from fun j hj => ?_)⟩
          by_cases hji : j = i
          · subst hji; rw [HX.out, HY.out, HXY.out]
          · exact HE.out j (by omega)
      · have hb := lz_all ⟨z, by omega⟩ h0
        simp only at hb
        have e1 : Hid (q = 8 * i + lz z) := (show _ = _ by rw [← HQ.out, apart_byte hlt HE.out HX.out HY.out (by rw [HZ2.out]; exact h0), HZ2.out])
        have C := hide (fun w => lz8_any (z : Int) (by omega) (by omega) w)
        rw [show ((z : Int)).toNat = z by omega] at C
        have hb1 := hb.1
        have e2 : Hid (lz z = 8 - Lib.bitLen z) := (show _ = _ from rfl)
        generalize Lib.bitLen z = y at *
        clear hb
        have q5 : ¬ (z : Int) = 0 := by omega
        go_wp2_with (go_at_call 71; refine (C.out _).mono ?_; rintro e w' ⟨rfl, rfl⟩)
        go_ret
        refine ⟨congrArg Ending.returned (congrArg (Value.int IntKind.i64) ?_), by rw [HN.out]; exact LR.out.trans (below_drewN _ _ _)⟩
        have := e1.out
        have := e2.out
        omega
    · obtain rfl : i = 32 := by omega
      have e1 : Hid (q = 256) := (show _ = _ by
        rw [← HQ.out]
        refine apart_all.2 (Subtype.ext (List.ext_getElem? (fun j => ?_)))
        rcases Nat.lt_or_ge j 32 with hj | hj
        · exact HE.out j hj
        · rw [List.getElem?_eq_none_iff.2 (by rw [a.2]; exact hj), List.getElem?_eq_none_iff.2 (by rw [b.2]; exact hj)])
      go_wp2
      go_ret
      rw [HN.out, e1.out]
      exact ⟨rfl, LR.out⟩
end Go.Proofs.YtooffljimdklfaaDoor

/-
  The reference's Apart and less: what the calls do.
-/
namespace Go.Proofs.YtooffljimdklfaaDoor
open Go.RowKit
theorem bitN_eq {a b : Hs} {i : Nat} : bitN a i = bitN b i ↔ bit a i = bit b i := by
  unfold bitN
  cases bit a i <;> cases bit b i <;> decide
set_option maxHeartbeats 2000000 in
set_option maxRecDepth 100000 in
theorem yApart_any (a b : Hs) (w : World) : Calls Tryd.prog 51 #[HV a, HV b] w fun e w' => e = .returned (.int .i64 (apart a b : Int)) ∧ Below w.heap.size w w' := by
  obtain ⟨q, HQ⟩ : ∃ q, Hid (apart a b = q) := ⟨_, rfl⟩
  rw [HQ.out]
  obtain ⟨N, HN⟩ : ∃ N, Hid (w.heap.size = N) := ⟨_, rfl⟩
  go_enter Tryd.func51, Tryd.ntmps51
  unfold HV
  go_wp2
  obtain ⟨w1, hw1⟩ : ∃ z, z = (w.alloc (.cells (By a.1).toArray 24 (0, 0))).alloc (.cells (By b.1).toArray 24 (0, 0)) := ⟨_, rfl⟩
  change Code.wp _ _ _ _ ((w.alloc (.cells (By a.1).toArray 24 (0, 0))).alloc (.cells (By b.1).toArray 24 (0, 0)))
  rw [← hw1, HN.out]
  have B1 : Hid (Blk w1 N 24 (By a.1)) := (show Blk _ _ _ _ by rw [hw1, ← HN.out]; exact (Blk.new w 24 (By a.1)).alloc _)
  have B2 : Hid (Blk w1 (N + 1) 24 (By b.1)) := (show Blk _ _ _ _ by rw [hw1, ← HN.out]; have := Blk.new (w.alloc (.cells (By a.1).toArray 24 (0, 0))) 24 (By b.1); simpa using this)
  have L1 : Hid (Below N w w1) := (show Below _ _ _ by rw [hw1, ← HN.out]; exact ((Below.refl _ _).alloc (Nat.le_refl _) _).alloc (by simp) _)
  clear hw1
  go_loopg [5] 257 (fun g z wr => ∃ i : Nat, i ≤ 256 ∧ g + i = 257 ∧ z = .int .i64 (i : Int) ∧ Hid (Below N w wr) ∧ Hid (Blk wr N 24 (By a.1)) ∧ Hid (Blk wr (N + 1) 24 (By b.1)) ∧ Hid (∀ j, j < i → bit a j = bit b j))
  case atStart => exact ⟨0, by omega, by omega, rfl, L1, B1, B2, (show _ from fun j hj => by omega)⟩
  case round =>
    obtain ⟨i, hi, hgi, rfl, LR, R1, R2, HE⟩ := hrel
    by_cases hlt : i < 256
    · have q2 : (i : Int) < 256 := by omega
      have C1 := hide (fun w => yBit_any a (i : Int) w)
      have C2 := hide (fun w => yBit_any b (i : Int) w)
      rw [bitZ_nat] at C1 C2
      obtain ⟨x, HX⟩ : ∃ x, Hid (bitN a i = x) := ⟨_, rfl⟩
      obtain ⟨y, HY⟩ : ∃ y, Hid (bitN b i = y) := ⟨_, rfl⟩
      rw [HX.out] at C1
      rw [HY.out] at C2
      go_upto_region 4 with fail
      by_cases hxy : x = y
      · subst hxy
        refine wp_region_inv Tryd.mixed (KS (fun i_ => match i_ with | 0 => .val (HV a) | 1 | 4 => .val (.int .i64 (i : Int)) | 2 | 5 => .val (.int .i64 x) | 3 => .val (HV b) | 6 => .val (.bool false) | _ => .free)) 18 rfl (by decide +kernel) (KS_mono _) ?_ ?_
        · refine AllFrom.cons (fun a' w' hg hk hd => ?_) (AllFrom.cons (fun a' w' hg hk hd => ?_) (AllFrom.cons (fun a' w' hg hk hd => ?_) (AllFrom.cons (fun a' w' hg hk hd => ?_) (AllFrom.cons (fun a' w' hg hk hd => ?_) (AllFrom.cons (fun a' w' hg hk hd => ?_) (AllFrom.cons (fun a' w' hg hk hd => ?_) AllFrom.nil))))))
          · skip
            intro Q
            have e2 : a'.eval (.tmp 2) = .pointer (some ⟨N, 0, none⟩) := hk.at 2 (by decide +kernel)
            exact wp_load_row 24 _ rfl _ _ e2 (By (a).1) _ ((R1.out.kept hg).range0) Tryd.underlying24 rfl (Tryd.sizeH _) (KS_mkv rfl rfl)
          · skip
            intro Q
            have e5 : a'.eval (.tmp 5) = .int .i64 (i : Int) := hk.at 5 (by decide +kernel)
            exact wp_value _ (by simp only [execOp, e5]; rfl) (KS_mkv rfl rfl)
          · skip
            intro Q
            have e10 : a'.eval (.tmp 10) = HV a := KS_val (hd.val 0 10 (by decide +kernel)) rfl
            have e11 : a'.eval (.tmp 11) = .int .i64 (i : Int) := KS_val (hd.val 1 11 (by decide +kernel)) rfl
            refine wp_call 31 _ (run_enter 31 _ _ rfl (by kernel_rfl)) ?_
            simp only [List.map_toArray, List.map_nil, List.map_cons, e10, e11]
            refine (C1.out _).mono ?_
            rintro e w5 ⟨rfl, hb5⟩
            exact ⟨_, rfl, KS_mkv rfl rfl, hb5⟩
          · skip
            intro Q
            have e3 : a'.eval (.tmp 3) = .pointer (some ⟨N + 1, 0, none⟩) := hk.at 3 (by decide +kernel)
            exact wp_load_row 24 _ rfl _ _ e3 (By (b).1) _ ((R2.out.kept hg).range0) Tryd.underlying24 rfl (Tryd.sizeH _) (KS_mkv rfl rfl)
          · skip
            intro Q
            have e5 : a'.eval (.tmp 5) = .int .i64 (i : Int) := hk.at 5 (by decide +kernel)
            exact wp_value _ (by simp only [execOp, e5]; rfl) (KS_mkv rfl rfl)
          · skip
            intro Q
            have e13 : a'.eval (.tmp 13) = HV b := KS_val (hd.val 3 13 (by decide +kernel)) rfl
            have e14 : a'.eval (.tmp 14) = .int .i64 (i : Int) := KS_val (hd.val 4 14 (by decide +kernel)) rfl
            refine wp_call 31 _ (run_enter 31 _ _ rfl (by kernel_rfl)) ?_
            simp only [List.map_toArray, List.map_nil, List.map_cons, e13, e14]
            refine (C2.out _).mono ?_
            rintro e w5 ⟨rfl, hb5⟩
            exact ⟨_, rfl, KS_mkv rfl rfl, hb5⟩
          · skip
            intro Q
            have e12 : a'.eval (.tmp 12) = .int .i64 x := KS_val (hd.val 2 12 (by decide +kernel)) rfl
            have e15 : a'.eval (.tmp 15) = .int .i64 x := KS_val (hd.val 5 15 (by decide +kernel)) rfl
            clear hd hk
            exact wp_value (.bool false) (by simp only [execOp, e12, e15]; go_simp) (KS_mkv rfl rfl)
        · intro a' w' hsz hdf hk hall hg
          have e10 : a'.eval (.tmp 10) = HV a := KS_val (hall 0 _ 10 rfl rfl) rfl
          have e11 : a'.eval (.tmp 11) = .int .i64 (i : Int) := KS_val (hall 1 _ 11 rfl rfl) rfl
          have e12 : a'.eval (.tmp 12) = .int .i64 x := KS_val (hall 2 _ 12 rfl rfl) rfl
          have e13 : a'.eval (.tmp 13) = HV b := KS_val (hall 3 _ 13 rfl rfl) rfl
          have e14 : a'.eval (.tmp 14) = .int .i64 (i : Int) := KS_val (hall 4 _ 14 rfl rfl) rfl
          have e15 : a'.eval (.tmp 15) = .int .i64 x := KS_val (hall 5 _ 15 rfl rfl) rfl
          have e16 : a'.eval (.tmp 16) = .bool false := KS_val (hall 6 _ 16 rfl rfl) rfl
          have ha := act_puts 18 rfl hsz hdf hk [10, 11, 12, 13, 14, 15, 16] (by decide +kernel)
          simp only [puts, List.foldl_cons, List.foldl_nil, e10, e11, e12, e13, e14, e15, e16] at ha
          simp only [Act.put, List.setIfInBounds_toArray, List.set_cons_succ, List.set_cons_zero] at ha
          clear hall hk hsz hdf e10 e11 e12 e13 e14 e15 e16
          subst ha
          have hR1 := hide (R1.out.kept hg)
          have hR2 := hide (R2.out.kept hg)
          have hL : Hid (Below N w w') := LR.out.trans (hg.mono (Nat.le_of_lt R1.out.lt))
          clear R1 R2 LR hg
          go_wp2
          go_roundg (257 - (i + 1))
          case measure => omega
          case rel =>
            refine ⟨i + 1, by omega, by omega, rfl, hL, hR1, hR2, (show _ from fun j hj => ?_)⟩
            by_cases hji : j = i
            · subst hji; exact bitN_eq.1 (HX.out.trans HY.out.symm)
            · exact HE.out j (by omega)
      · have hne : (x == y) = false := by simpa using hxy
        refine wp_region_inv Tryd.mixed (KS (fun i_ => match i_ with | 0 => .val (HV a) | 1 | 4 => .val (.int .i64 (i : Int)) | 2 => .val (.int .i64 x) | 3 => .val (HV b) | 5 => .val (.int .i64 y) | 6 => .val (.bool true) | _ => .free)) 18 rfl (by decide +kernel) (KS_mono _) ?_ ?_
        · refine AllFrom.cons (fun a' w' hg hk hd => ?_) (AllFrom.cons (fun a' w' hg hk hd => ?_) (AllFrom.cons (fun a' w' hg hk hd => ?_) (AllFrom.cons (fun a' w' hg hk hd => ?_) (AllFrom.cons (fun a' w' hg hk hd => ?_) (AllFrom.cons (fun a' w' hg hk hd => ?_) (AllFrom.cons (fun a' w' hg hk hd => ?_) AllFrom.nil))))))
          · skip
            intro Q
            have e2 : a'.eval (.tmp 2) = .pointer (some ⟨N, 0, none⟩) := hk.at 2 (by decide +kernel)
            exact wp_load_row 24 _ rfl _ _ e2 (By (a).1) _ ((R1.out.kept hg).range0) Tryd.underlying24 rfl (Tryd.sizeH _) (KS_mkv rfl rfl)
          · skip
            intro Q
            have e5 : a'.eval (.tmp 5) = .int .i64 (i : Int) := hk.at 5 (by decide +kernel)
            exact wp_value _ (by simp only [execOp, e5]; rfl) (KS_mkv rfl rfl)
          · skip
            intro Q
            have e10 : a'.eval (.tmp 10) = HV a := KS_val (hd.val 0 10 (by decide +kernel)) rfl
            have e11 : a'.eval (.tmp 11) = .int .i64 (i : Int) := KS_val (hd.val 1 11 (by decide +kernel)) rfl
            refine wp_call 31 _ (run_enter 31 _ _ rfl (by kernel_rfl)) ?_
            simp only [List.map_toArray, List.map_nil, List.map_cons, e10, e11]
            refine (C1.out _).mono ?_
            rintro e w5 ⟨rfl, hb5⟩
            exact ⟨_, rfl, KS_mkv rfl rfl, hb5⟩
          · skip
            intro Q
            have e3 : a'.eval (.tmp 3) = .pointer (some ⟨N + 1, 0, none⟩) := hk.at 3 (by decide +kernel)
            exact wp_load_row 24 _ rfl _ _ e3 (By (b).1) _ ((R2.out.kept hg).range0) Tryd.underlying24 rfl (Tryd.sizeH _) (KS_mkv rfl rfl)
          · skip
            intro Q
            have e5 : a'.eval (.tmp 5) = .int .i64 (i : Int) := hk.at 5 (by decide +kernel)
            exact wp_value _ (by simp only [execOp, e5]; rfl) (KS_mkv rfl rfl)
          · skip
            intro Q
            have e13 : a'.eval (.tmp 13) = HV b := KS_val (hd.val 3 13 (by decide +kernel)) rfl
            have e14 : a'.eval (.tmp 14) = .int .i64 (i : Int) := KS_val (hd.val 4 14 (by decide +kernel)) rfl
            refine wp_call 31 _ (run_enter 31 _ _ rfl (by kernel_rfl)) ?_
            simp only [List.map_toArray, List.map_nil, List.map_cons, e13, e14]
            refine (C2.out _).mono ?_
            rintro e w5 ⟨rfl, hb5⟩
            exact ⟨_, rfl, KS_mkv rfl rfl, hb5⟩
          · skip
            intro Q
            have e12 : a'.eval (.tmp 12) = .int .i64 x := KS_val (hd.val 2 12 (by decide +kernel)) rfl
            have e15 : a'.eval (.tmp 15) = .int .i64 y := KS_val (hd.val 5 15 (by decide +kernel)) rfl
            clear hd hk
            exact wp_value (.bool true) (by simp only [execOp, e12, e15]; go_simp) (KS_mkv rfl rfl)
        · intro a' w' hsz hdf hk hall hg
          have e10 : a'.eval (.tmp 10) = HV a := KS_val (hall 0 _ 10 rfl rfl) rfl
          have e11 : a'.eval (.tmp 11) = .int .i64 (i : Int) := KS_val (hall 1 _ 11 rfl rfl) rfl
          have e12 : a'.eval (.tmp 12) = .int .i64 x := KS_val (hall 2 _ 12 rfl rfl) rfl
          have e13 : a'.eval (.tmp 13) = HV b := KS_val (hall 3 _ 13 rfl rfl) rfl
          have e14 : a'.eval (.tmp 14) = .int .i64 (i : Int) := KS_val (hall 4 _ 14 rfl rfl) rfl
          have e15 : a'.eval (.tmp 15) = .int .i64 y := KS_val (hall 5 _ 15 rfl rfl) rfl
          have e16 : a'.eval (.tmp 16) = .bool true := KS_val (hall 6 _ 16 rfl rfl) rfl
          have ha := act_puts 18 rfl hsz hdf hk [10, 11, 12, 13, 14, 15, 16] (by decide +kernel)
          simp only [puts, List.foldl_cons, List.foldl_nil, e10, e11, e12, e13, e14, e15, e16] at ha
          simp only [Act.put, List.setIfInBounds_toArray, List.set_cons_succ, List.set_cons_zero] at ha
          clear hall hk hsz hdf e10 e11 e12 e13 e14 e15 e16
          subst ha
          have hL : Hid (Below N w w') := LR.out.trans (hg.mono (Nat.le_of_lt R1.out.lt))
          have e1 : Hid (q = i) := (show _ = _ by
            rw [← HQ.out]
            exact apart_uniq hi HE.out (fun _ e => hxy (by rw [← HX.out, ← HY.out]; exact bitN_eq.2 e)))
          clear R1 R2 LR hg
          go_wp2
          go_ret
          rw [HN.out, e1.out]
          exact ⟨rfl, hL.out⟩
    · obtain rfl : i = 256 := by omega
      have e1 : Hid (q = 256) := (show _ = _ by rw [← HQ.out]; exact apart_uniq (Nat.le_refl _) HE.out (fun h => absurd h (by omega)))
      go_wp2
      go_ret
      rw [HN.out, e1.out]
      exact ⟨rfl, LR.out⟩
set_option maxHeartbeats 2000000 in
set_option maxRecDepth 100000 in
theorem yless_any (a b : Hs) (w : World) : Calls Tryd.prog 47 #[HV a, HV b] w fun e w' => e = .returned (.bool (lss a b)) ∧ Below w.heap.size w w' := by
  have CA := hide (fun w => yApart_any a b w)
  have hle := apart_le a b
  have CB := hide (fun w => yBit_any a (apart a b : Int) w)
  rw [bitZ_nat] at CB
  obtain ⟨q, HQ⟩ : ∃ q, Hid (lss a b = q) := ⟨_, rfl⟩
  have HD : Hid (q = (decide (apart a b < 256) && !(bit a (apart a b)))) := HQ.out.symm
  rw [HQ.out]
  unfold bitN at CB
  generalize apart a b = n at *
  obtain ⟨x, HX⟩ : ∃ x, Hid (bit a n = x) := ⟨_, rfl⟩
  rw [HX.out] at CB HD
  obtain ⟨N, HN⟩ : ∃ N, Hid (w.heap.size = N) := ⟨_, rfl⟩
  go_enter Tryd.func47, Tryd.ntmps47
  unfold HV
  go_upto_region 1 with fail
  obtain ⟨w1, hw1⟩ : ∃ z, z = (w.alloc (.cells (By a.1).toArray 24 (0, 0))).alloc (.cells (By b.1).toArray 24 (0, 0)) := ⟨_, rfl⟩
  change Code.wp _ _ _ _ ((w.alloc (.cells (By a.1).toArray 24 (0, 0))).alloc (.cells (By b.1).toArray 24 (0, 0)))
  rw [← hw1, HN.out]
  have B1 : Hid (Blk w1 N 24 (By a.1)) := (show Blk _ _ _ _ by rw [hw1, ← HN.out]; exact (Blk.new w 24 (By a.1)).alloc _)
  have B2 : Hid (Blk w1 (N + 1) 24 (By b.1)) := (show Blk _ _ _ _ by rw [hw1, ← HN.out]; have := Blk.new (w.alloc (.cells (By a.1).toArray 24 (0, 0))) 24 (By b.1); simpa using this)
  have L1 : Hid (Below N w w1) := (show Below _ _ _ by rw [hw1, ← HN.out]; exact ((Below.refl _ _).alloc (Nat.le_refl _) _).alloc (by simp) _)
  clear hw1
  have ra := B1.out.range0
  have rb := B2.out.range0
  go_wp2_with (first
    | (refine wpList_load_mid rfl 24 _ rfl N 0 rfl (By a.1) _ ra Tryd.underlying24 rfl (Tryd.sizeH a) ?_)
    | (refine wpList_load_mid rfl 24 _ rfl (N + 1) 0 rfl (By b.1) _ rb Tryd.underlying24 rfl (Tryd.sizeH b) ?_)
    | fail)
  refine (CA.out _).mono ?_
  rintro e w2 ⟨rfl, hb2⟩
  have B3 := hide (B1.out.kept hb2)
  have L2 : Hid (Below N w w2) := L1.out.trans (hb2.mono (Nat.le_of_lt B1.out.lt))
  clear hb2 ra rb
  have ra := B3.out.range0
  by_cases hn : n < 256
  · have q1 : (n : Int) < 256 := by omega
    have q2 : ¬ (256 : Int) ≤ n := by omega
    cases x with
    | true =>
      have e1 : q = false := by rw [HD.out]; simp
      subst e1
      go_wp2_with (first
        | (refine wpList_load_w9 rfl 24 _ rfl N 0 rfl (By a.1) _ ra Tryd.underlying24 rfl (Tryd.sizeH a) ?_)
        | fail)
      refine (CB.out _).mono ?_
      rintro e w3 ⟨rfl, hb3⟩
      have L3 : Hid (Below N w w3) := L2.out.trans (hb3.mono (Nat.le_of_lt B3.out.lt))
      clear hb3
      go_wp2
      go_ret
      rw [HN.out]
      exact ⟨rfl, L3.out⟩
    | false =>
      have e1 : q = true := by rw [HD.out]; simp [hn]
      subst e1
      go_wp2_with (first
        | (refine wpList_load_w9 rfl 24 _ rfl N 0 rfl (By a.1) _ ra Tryd.underlying24 rfl (Tryd.sizeH a) ?_)
        | fail)
      refine (CB.out _).mono ?_
      rintro e w3 ⟨rfl, hb3⟩
      have L3 : Hid (Below N w w3) := L2.out.trans (hb3.mono (Nat.le_of_lt B3.out.lt))
      clear hb3
      go_wp2
      go_ret
      rw [HN.out]
      exact ⟨rfl, L3.out⟩
  · have q1 : (256 : Int) ≤ n := by omega
    have e1 : q = false := by rw [HD.out]; simp [hn]
    subst e1
    go_wp2
    go_ret
    rw [HN.out]
    exact ⟨rfl, L2.out⟩
#print axioms yless_any
end Go.Proofs.YtooffljimdklfaaDoor

/-
  New, isMade, Len, isItem, item and fork: what the calls do.
-/
namespace Go.Proofs.YtooffljimdklfaaDoor
open Go.RowKit
abbrev PT (b : Nat) : Value := .pointer (some ⟨b, 0, none⟩)
theorem built_node (parts : List (Nat × Value)) : Tryd.prog.built 101 parts = Instr.fill ((#[(0, 1), (1, 32), (33, 32), (65, 2), (67, 3), (70, 32)] : Array (Nat × Nat))[·]?) NC0.toArray parts := by kernel_rfl
theorem build_item (k v : Hs) (w : World) : (Instr.build 101 #[(0, .int .i64 256), (1, .agg (By k.1).toArray), (2, .agg (By v.1).toArray)]).run Tryd.prog w = .ok (.agg (NC 256 k v (.pointer none) (.pointer none) 0 0 zh).toArray) w := by
  refine run_build w _ _ _ ?_
  rw [built_node]
  rw [fill_one _ _ _ 0 0 _ rfl rfl (by rw [NC_length]; decide), NC.setBit, fill_row _ _ _ 1 1 _ (by rw [By_len]; rfl) (by rw [By_len, NC_length]; decide), NC.setKey, fill_row _ _ _ 2 33 _ (by rw [By_len]; rfl) (by rw [By_len, NC_length]; decide), NC.setValue]
  rfl
theorem build_fork (i : Int) (w : World) : (Instr.build 101 #[(0, .int .i64 i)]).run Tryd.prog w = .ok (.agg (NC i zh zh (.pointer none) (.pointer none) 0 0 zh).toArray) w := by
  refine run_build w _ _ _ ?_
  rw [built_node]
  rw [fill_one _ _ _ 0 0 _ rfl rfl (by rw [NC_length]; decide), NC.setBit]
  rfl
theorem wpList_build_item {ops : Array Oper} {rest : List Oper} {op : Oper} {a : Act} {w : World} {Q : Exit → Act → World → Prop} (hgd : op.guard = none) (x y : Operand) (ho : op.op = .build 101 #[(0, .const (.int .i64 256)), (1, x), (2, y)]) (k v : Hs) (hx : a.eval x = .agg (By k.1).toArray) (hy : a.eval y = .agg (By v.1).toArray)
    (h : wpList Tryd.prog ops Q rest (a.put op.dst (.agg (NC 256 k v (.pointer none) (.pointer none) 0 0 zh).toArray)) w) : wpList Tryd.prog ops Q (op :: rest) a w := by
  refine wpList_plain hgd fun K hK => ?_
  have hr := build_item k v w
  have hc : a.eval (.const (.int .i64 256)) = .int .i64 256 := rfl
  unfold Oper.wp execOp
  simp only [ho, hx, hy, hc, hr, List.map_toArray, List.map_cons, List.map_nil, Sem.run_bind, Sem.run_pure, Result.andThen_ok]
  exact hK _ _ h
theorem wpList_build_fork {ops : Array Oper} {rest : List Oper} {op : Oper} {a : Act} {w : World} {Q : Exit → Act → World → Prop} (hgd : op.guard = none) (x : Operand) (ho : op.op = .build 101 #[(0, x)]) (i : Int) (hx : a.eval x = .int .i64 i)
    (h : wpList Tryd.prog ops Q rest (a.put op.dst (.agg (NC i zh zh (.pointer none) (.pointer none) 0 0 zh).toArray)) w) : wpList Tryd.prog ops Q (op :: rest) a w := by
  refine wpList_plain hgd fun K hK => ?_
  have hr := build_fork i w
  unfold Oper.wp execOp
  simp only [ho, hx, hr, List.map_toArray, List.map_cons, List.map_nil, Sem.run_bind, Sem.run_pure, Result.andThen_ok]
  exact hK _ _ h
set_option maxHeartbeats 1000000 in
set_option maxRecDepth 100000 in
theorem kNew_any (B0 : Nat) (w : World) : Calls Tryd.prog 25 #[] w fun e w' => ∃ p, e = .returned (PT p) ∧ w.heap.size ≤ p ∧ TrieAt B0 w' p [] ∧ Below w.heap.size w w' := by
  go_enter Tryd.func25, Tryd.ntmps25
  go_wp2
  go_ret
  exact ⟨_, rfl, Nat.le_refl _, ⟨_, Blk.new w 60 [.bool true, .pointer none, .int .i64 0], Srt_nil, .inl ⟨rfl, rfl⟩⟩, (Below.refl _ _).alloc (Nat.le_refl _) _⟩
set_option maxHeartbeats 1000000 in
set_option maxRecDepth 100000 in
theorem tisMade_any {w : World} {p : Nat} {m : Bool} {x y : Value} (h : Blk w p 60 [.bool m, x, y]) : Calls Tryd.prog 41 #[PT p] w fun e w' => e = .returned (.bool m) ∧ w' = w := by
  have c0 := h.cell (j := 0) rfl
  go_enter Tryd.func41, Tryd.ntmps41
  go_wp2
  go_ret
  exact ⟨rfl, rfl⟩
set_option maxHeartbeats 1000000 in
set_option maxRecDepth 100000 in
theorem tisMade_nil (w : World) : Calls Tryd.prog 41 #[.pointer none] w fun e w' => e = .returned (.bool false) ∧ w' = w := by
  go_enter Tryd.func41, Tryd.ntmps41
  go_wp2
  go_ret
  exact ⟨rfl, rfl⟩
set_option maxHeartbeats 1000000 in
set_option maxRecDepth 100000 in
theorem tLen_any {B0 : Nat} {w : World} {p : Nat} {L : List It} (h : TrieAt B0 w p L) : Calls Tryd.prog 48 #[PT p] w fun e w' => e = .returned (.int .i64 (L.length : Int)) ∧ w' = w := by
  obtain ⟨top, hB, -, -⟩ := h
  generalize L.length = n at *
  have c2 := hB.cell (j := 2) rfl
  have C := hide (tisMade_any hB)
  clear hB
  go_enter Tryd.func48, Tryd.ntmps48
  go_wp2_with (go_at_call 41; refine C.out.mono ?_; rintro e w' ⟨rfl, rfl⟩)
  go_ret
  exact ⟨rfl, rfl⟩
set_option maxHeartbeats 1000000 in
set_option maxRecDepth 100000 in
theorem nisItem_any {w : World} {b : Nat} {i : Int} {k v : Hs} {l r : Value} {d m : Int} {h : Hs} (hB : Blk w b 101 (NC i k v l r d m h)) : Calls Tryd.prog 44 #[PT b] w fun e w' => e = .returned (.bool (decide (i = 256))) ∧ w' = w := by
  have c0 := NC.bit hB
  by_cases hi : i = 256
  · subst hi
    go_enter Tryd.func44, Tryd.ntmps44
    go_wp2
    go_ret
    exact ⟨rfl, rfl⟩
  · have e : decide (i = 256) = false := decide_eq_false hi
    rw [e]
    go_enter Tryd.func44, Tryd.ntmps44
    go_wp2
    go_ret
    exact ⟨by simp [hi], rfl⟩
set_option maxHeartbeats 2000000 in
set_option maxRecDepth 100000 in
theorem kitem_any (B0 : Nat) (k v : Hs) (w : World) (hB0 : B0 ≤ w.heap.size) : Calls Tryd.prog 58 #[HV k, HV v] w fun e w' => ∃ b, e = .returned (PT b) ∧ w.heap.size ≤ b ∧ Nd B0 w' b [(k, v)] ∧ Below w.heap.size w w' := by
  obtain ⟨N, HN⟩ : ∃ N, Hid (w.heap.size = N) := ⟨_, rfl⟩
  rw [HN.out] at hB0 ⊢
  go_enter Tryd.func58, Tryd.ntmps58
  unfold HV
  go_upto_region 1 with fail
  obtain ⟨w1, hw1⟩ : ∃ z, z = (w.alloc (.cells (By k.1).toArray 24 (0, 0))).alloc (.cells (By v.1).toArray 24 (0, 0)) := ⟨_, rfl⟩
  change Code.wp _ _ _ _ ((w.alloc (.cells (By k.1).toArray 24 (0, 0))).alloc (.cells (By v.1).toArray 24 (0, 0)))
  rw [← hw1, HN.out]
  have B1 : Hid (Blk w1 N 24 (By k.1)) := (show Blk _ _ _ _ by rw [hw1, ← HN.out]; exact (Blk.new w 24 (By k.1)).alloc _)
  have B2 : Hid (Blk w1 (N + 1) 24 (By v.1)) := (show Blk _ _ _ _ by rw [hw1, ← HN.out]; have := Blk.new (w.alloc (.cells (By k.1).toArray 24 (0, 0))) 24 (By v.1); simpa using this)
  have L1 : Hid (Below N w w1) := (show Below _ _ _ by rw [hw1, ← HN.out]; exact ((Below.refl _ _).alloc (Nat.le_refl _) _).alloc (by simp) _)
  clear hw1
  have ra := B1.out.range0
  have rb := B2.out.range0
  go_wp2_with (first
    | (refine wpList_load_mid rfl 24 _ rfl N 0 rfl (By k.1) _ ra Tryd.underlying24 rfl (Tryd.sizeH k) ?_)
    | (refine wpList_load_mid rfl 24 _ rfl (N + 1) 0 rfl (By v.1) _ rb Tryd.underlying24 rfl (Tryd.sizeH v) ?_)
    | (refine wpList_build_item rfl _ _ rfl k v rfl rfl ?_)
    | fail)
  go_ret
  have hw2 : N ≤ w1.heap.size := Nat.le_of_lt B1.out.lt
  exact ⟨_, rfl, hw2, Nd.iff.2 ⟨by omega, 256, k, v, _, _, 0, zh, Blk.new w1 101 _, .inl rfl, .inl ⟨rfl, rfl, rfl, rfl⟩⟩, L1.out.alloc hw2 _⟩
#print axioms kitem_any
end Go.Proofs.YtooffljimdklfaaDoor
