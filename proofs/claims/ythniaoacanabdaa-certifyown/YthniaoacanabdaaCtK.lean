/-
  Begins of reads as a map's keys; the set of begins.
-/
import Derived.Test.YthniaoacanabdaaCtM
import Derived.DeepKeys4
import Derived.Maps.OwnSet
namespace Go.Proofs.Ythniaoacanabdaa
open Go.RowKit
theorem Try.wideBegin : (match Try.prog.underlying 58 with | some (.array _ _) | some (.struct _) => true | _ => false) = true := by kernel_rfl
theorem keyedB : Go.Maps.Keyed Try.prog 58 := Go.Maps.Keyed.of_law (deep_law_laid (P := Try.prog) (by kernel_rfl) (m := 3) (by omega) (of_decide_eq_true (by kernel_rfl)) (by kernel_rfl) Try.wideBegin)
/-- What a begin reads as. -/
def kB (s : Bool) (k : ByteArray) : Lit := .string (keyBytes [.bool s, .string k.data.toList])
theorem begin_key (s : Bool) (k : ByteArray) (hk : k.size ≤ maxLen) : keyOf Try.prog 58 (.agg #[.bool s, .string k]) = some (kB s k) := by
  have h1 : Try.prog.keyType 58 = true := by kernel_rfl
  have h2 : (Value.agg #[.bool s, .string k]).formed Try.prog 58 = true := by kernel_rfl
  have k4 : Try.prog.cellsOf 4 = 1 := by kernel_rfl
  have k9 : Try.prog.cellsOf 9 = 1 := by kernel_rfl
  have kb : Try.prog.cellsOf 58 = 2 := by kernel_rfl
  have hts : ∃ n, Try.prog.types.size = n + 1 := ⟨_, show _ = Try.prog.types.size - 1 + 1 by kernel_rfl⟩
  obtain ⟨n, hn⟩ := hts
  have h3 : Try.prog.keyLits (Try.prog.types.size + 1) 58 [.bool s, .string k] = some [.bool s, .string k.data.toList] := by
    rw [hn]
    simp [Program.keyLits, Try.underlying58, Try.underlying4, Try.underlying9, k4, k9, kb, hk]
  unfold keyOf
  rw [Try.underlying58]
  show (if (Try.prog.keyType 58 && (Value.agg #[.bool s, .string k]).formed Try.prog 58) = true then (Try.prog.keyLits (Try.prog.types.size + 1) 58 [.bool s, .string k]).map (fun ls => Lit.string (keyBytes ls)) else none) = _
  rw [h1, h2, h3]
  rfl
theorem kB_ne {s s' : Bool} {k k' : ByteArray} (hk : k.size ≤ maxLen) (hk' : k'.size ≤ maxLen) (h : kB s k = kB s' k') : s = s' ∧ k = k' := by
  have h1 := begin_key s k hk
  rw [h] at h1
  have := keyedB.inj h1 (begin_key s' k' hk')
  simpa using this
theorem kB_key (s : Bool) (k : ByteArray) : WideAt.IsKeyLit (kB s k) := by simp [WideAt.IsKeyLit, kB]
/-- Block M is the set of the begins of the reads seen. -/
def SetB (w : World) (M : Nat) (pre : List Rz) : Prop :=
  ∃ (D : DataW Unit) (n : Nat), w.ownsMap Try.prog 58 unitElem M n D ∧ n ≤ pre.length ∧ ∀ x : Rz, x.k.size ≤ maxLen → Maps.has D (kB x.sc x.k) = seenP pre x
theorem SetB.made (w : World) : SetB (w.alloc (.map #[] 0)) w.heap.size [] := ⟨.map [], 0, World.ownsMap_made w _ _ _, Nat.le_refl _, fun _ _ => rfl⟩
theorem SetB.chg {w w' : World} {M : Nat} {pre : List Rz} (h : SetB w M pre) {F : Nat → Prop} (hc : Chg F w w') (hF : ¬ F M) : SetB w' M pre := by
  obtain ⟨D, n, ⟨es, clock, hb, r⟩, h2⟩ := h
  exact ⟨D, n, ⟨es, clock, (hc.block M (Array.getElem?_eq_some_iff.1 hb).1 hF).trans hb, r⟩, h2⟩
theorem SetB.kept {w w' : World} {M : Nat} {pre : List Rz} (h : SetB w M pre) (hb : Below w.heap.size w w') : SetB w' M pre := h.chg (F := fun _ => False) (Chg.of_below hb) id
theorem SetB.block {w : World} {M : Nat} {pre : List Rz} (h : SetB w M pre) : ∃ es clock, w.heap[M]? = some (.map es clock) := by
  obtain ⟨D, n, ⟨es, clock, hb, r⟩, h2⟩ := h
  exact ⟨es, clock, hb⟩
theorem zeroU (W : World) : (zeroValue 59).run Try.prog W = .ok (.agg #[]) W := by kernel_rfl
theorem SetB.look {w : World} {M : Nat} {pre : List Rz} (h : SetB w M pre) (x : Rz) (hk : x.k.size ≤ maxLen) :
    (Instr.lookup 56 (.map (some M)) (.agg #[.bool x.sc, .string x.k]) true).run Try.prog w = .ok (.tuple #[.agg #[], .bool (seenP pre x)]) w := by
  obtain ⟨D, n, h1, h2, h3⟩ := h
  obtain ⟨v, ps, hrun, hv⟩ := h1.look_ok (t := 56) (e := 59) keyedB Try.underlying56 (zeroU w) unitElem_mk (begin_key x.sc x.k hk)
  obtain ⟨rfl, _⟩ := unitElem_inv hv
  rw [hrun, h3 x hk]
theorem SetB.put {w : World} {M : Nat} {pre : List Rz} (h : SetB w M pre) (hN : pre.length ≤ 1000000) (x : Rz) (hk : x.k.size ≤ maxLen) :
    ∃ w', (Instr.mapUpdate 56 (.map (some M)) (.agg #[.bool x.sc, .string x.k]) (.agg #[])).run Try.prog w = .ok () w' ∧ SetB w' M (pre ++ [x]) ∧ w.mapTurned w' M := by
  obtain ⟨D, n, h1, h2, h3⟩ := h
  obtain ⟨w', hrun, ho, ht⟩ := h1.store (t := 56) (e := 59) keyedB Try.underlying56 (by unfold maxLen; omega) (begin_key x.sc x.k hk) unitElem_mk
  have htd := h1.tidy keyedB
  refine ⟨w', hrun, ⟨D.put (kB x.sc x.k) (.agg []), n + 1, ho, by rw [List.length_append, List.length_singleton]; omega, fun y hy => ?_⟩, ht⟩
  unfold seenP
  rw [List.any_append]
  by_cases e : kB y.sc y.k = kB x.sc x.k
  · obtain ⟨e1, e2⟩ := kB_ne hy hk e
    rw [e, Maps.has_put_same htd.isMap (kB_key _ _)]
    simp [e1, e2]
  · rw [Maps.has_put_other e, h3 y hy]
    have : ((x.sc == y.sc) && (x.k.toList == y.k.toList)) = false := by
      rw [Bool.eq_false_iff]
      intro h9
      rw [Bool.and_eq_true, beq_iff_eq, beq_iff_eq] at h9
      exact e (by rw [h9.1, ba_inj.1 h9.2])
    simp [seenP, this]
end Go.Proofs.Ythniaoacanabdaa
