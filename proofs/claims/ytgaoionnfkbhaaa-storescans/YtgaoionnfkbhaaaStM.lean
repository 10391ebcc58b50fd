/-
  Strings, pairs in rows; a map of chains; a Store in memory.
-/
import Derived.Test.YtgaoionnfkbhaaaStP
namespace Go.Proofs.Ytgaoionnfkbhaaa
open Go.RowKit
def KE : Enc ByteArray := ⟨fun k => [.string k], 1, fun _ => rfl, fun x u hu => by simp at hu; subst hu; rfl⟩
/-- The cells of a pair. -/
def PC (p : Pr) : List Value := [.string p.1, .string p.2.1, .bool p.2.2]
theorem PC_one (p : Pr) : ∀ u ∈ PC p, u.oneCell' = true := by
  intro u hu
  simp only [PC, List.mem_cons, List.not_mem_nil, or_false] at hu
  rcases hu with rfl | rfl | rfl <;> rfl
def PE : Enc Pr := ⟨PC, 3, fun _ => rfl, PC_one⟩
theorem Try.info9 : (Try.prog.info? 9).map (fun i => (i.zero, i.size, i.bytes)) = some (some (.string ⟨#[]⟩), 1, 16) := by kernel_rfl
theorem Try.size9 : (Try.prog.info? 9).map (·.size) = some 1 := by kernel_rfl
theorem Try.info49 : (Try.prog.info? 49).map (fun i => (i.zero, i.size, i.bytes)) = some (some (.agg #[.string ⟨#[]⟩, .string ⟨#[]⟩, .bool false]), 3, 40) := by kernel_rfl
theorem Try.size49 : (Try.prog.info? 49).map (·.size) = some 3 := by kernel_rfl
theorem Zpair : ∀ W : World, (zeroValue 49).run Try.prog W = .ok (.agg #[.string ⟨#[]⟩, .string ⟨#[]⟩, .bool false]) W := fun W => by kernel_rfl
/-- How a chain's slice is told. -/
def encC : Value → DataW Unit
  | .slice (some a) n cap => .agg [.lit (.int .i64 a.block), .lit (.int .i64 n), .lit (.int .i64 cap)]
  | _ => .nil
def chE : Value → Option (DataW Unit × List MemPlace)
  | .slice none 0 0 => some (.nil, [])
  | .slice (some ⟨b, 0, none⟩) n cap => some (.agg [.lit (.int .i64 b), .lit (.int .i64 n), .lit (.int .i64 cap)], [])
  | _ => none
/-- A slice as a row owns it. -/
def Rowy (v : Value) : Prop := v = .slice none 0 0 ∨ ∃ g n cap, v = .slice (some ⟨g, 0, none⟩) n cap
theorem chE_mk {v : Value} (h : Rowy v) : chE v = some (encC v, []) := by
  rcases h with rfl | ⟨g, n, cap, rfl⟩ <;> rfl
theorem chE_inv {v : Value} {z : DataW Unit × List MemPlace} (h : chE v = some z) : Rowy v ∧ z = (encC v, []) := by
  unfold chE at h
  split at h
  · cases h; exact ⟨.inl rfl, rfl⟩
  · cases h; exact ⟨.inr ⟨_, _, _, rfl⟩, rfl⟩
  · cases h
theorem encC_inj {u v : Value} (hu : Rowy u) (hv : Rowy v) (h : encC u = encC v) : u = v := by
  rcases hu with rfl | ⟨g, n, cap, rfl⟩ <;> rcases hv with rfl | ⟨g', n', cap', rfl⟩
  · rfl
  · simp [encC] at h
  · simp [encC] at h
  · simp [encC] at h
    obtain ⟨h1, h2, h3⟩ := h
    obtain rfl : g = g' := by omega
    obtain rfl : n = n' := by omega
    obtain rfl : cap = cap' := by omega
    rfl
theorem OwnV.rowy {w : World} {B : Nat} {e : TypeId} {v : Value} {L : List Ver} (h : OwnV w B e v L) : Rowy v := by
  obtain ⟨h1, h2⟩ := h
  rcases h2 with ⟨rfl, _⟩ | ⟨g, cap, cur, rfl, _⟩
  · exact .inl rfl
  · exact .inr ⟨_, _, _, rfl⟩
theorem OwnV.block {w : World} {B : Nat} {e : TypeId} {v : Value} {L : List Ver} (h : OwnV w B e v L) {b : Nat} (hb : v.ownBlock = some b) : B ≤ b ∧ b < w.heap.size ∧ ∃ cur, w.heap[b]? = some (.cells cur e (0, 0)) := by
  obtain ⟨h1, h2⟩ := h
  rcases h2 with ⟨rfl, _⟩ | ⟨g, cap, cur, rfl, hg, hh, r⟩
  · cases hb
  · cases hb
    exact ⟨hg, (Array.getElem?_eq_some_iff.1 hh).1, cur, hh⟩
theorem OwnV.chg {w w' : World} {B : Nat} {e : TypeId} {v : Value} {L : List Ver} {F : Nat → Prop} (h : OwnV w B e v L) (hc : Chg F w w') (hF : ∀ b, v.ownBlock = some b → ¬ F b) : OwnV w' B e v L := by
  obtain ⟨h1, h2⟩ := h
  refine ⟨h1, ?_⟩
  rcases h2 with h2 | ⟨g, cap, cur, hv, hg, hh, r⟩
  · exact Or.inl h2
  · have hlt : g < w.heap.size := (Array.getElem?_eq_some_iff.1 hh).1
    exact Or.inr ⟨g, cap, cur, hv, hg, by rw [hc.block g hlt (hF g (by rw [hv]; rfl))]; exact hh, r⟩
theorem keyed9 : Go.Maps.Keyed Try.prog 9 := Go.Maps.string_keyed Try.underlying9
theorem zeroC (w : World) : (zeroValue 66).run Try.prog w = .ok (.slice none 0 0) w := by kernel_rfl
def kS (k : ByteArray) : Lit := .string k.data.toList
theorem kS_ne {a b : ByteArray} (h : a ≠ b) : kS a ≠ kS b := fun e => h (by
  simp only [kS, Lit.string.injEq] at e
  obtain ⟨⟨x⟩⟩ := a
  obtain ⟨⟨y⟩⟩ := b
  simp at e
  rw [e])
theorem kS_key (k : ByteArray) : WideAt.IsKeyLit (kS k) := by simp [WideAt.IsKeyLit, kS]
/-- Block M is a map of N slices by keys: f. -/
def MapF (w : World) (M : Nat) (f : ByteArray → Option Value) (N : Nat) : Prop :=
  ∃ D : DataW Unit, w.ownsMap Try.prog 9 chE M N D ∧ Maps.size D = N ∧ (∀ k v, f k = some v → Rowy v) ∧
    (∀ k, Maps.has D (kS k) = (f k).isSome) ∧ (∀ k v, f k = some v → D.atKey (kS k) .nil = encC v)
def putF (f : ByteArray → Option Value) (k : ByteArray) (v : Value) : ByteArray → Option Value := fun j => if j = k then some v else f j
def delF (f : ByteArray → Option Value) (k : ByteArray) : ByteArray → Option Value := fun j => if j = k then none else f j
theorem MapF.chg {w w' : World} {M : Nat} {f : ByteArray → Option Value} {N : Nat} (h : MapF w M f N) {F : Nat → Prop} (hc : Chg F w w') (hF : ¬ F M) : MapF w' M f N := by
  obtain ⟨D, ⟨es, clock, hb, r⟩, h2⟩ := h
  exact ⟨D, ⟨es, clock, (hc.block M (Array.getElem?_eq_some_iff.1 hb).1 hF).trans hb, r⟩, h2⟩
theorem MapF.block {w : World} {M : Nat} {f : ByteArray → Option Value} {N : Nat} (h : MapF w M f N) : ∃ es clock, w.heap[M]? = some (.map es clock) := by
  obtain ⟨D, ⟨es, clock, hb, r⟩, h2⟩ := h
  exact ⟨es, clock, hb⟩
theorem MapF_made (w : World) : MapF (w.alloc (.map #[] 0)) w.heap.size (fun _ => none) 0 :=
  ⟨.map [], World.ownsMap_made w _ _ _, rfl, ⟨fun _ _ h => by simp at h, fun _ => rfl, fun _ _ h => by simp at h⟩⟩
theorem MapF.copy {w : World} {M : Nat} {f : ByteArray → Option Value} {N : Nat} (h : MapF w M f N) {es : Array MapEntry} {clock : Nat} (hb : w.heap[M]? = some (.map es clock)) : MapF (w.alloc (.map es clock)) w.heap.size f N := by
  obtain ⟨D, ⟨es', clock', hb', r⟩, h2⟩ := h
  rw [hb] at hb'
  cases hb'
  exact ⟨D, ⟨es, clock, by show (w.heap.push _)[w.heap.size]? = _; simp, r⟩, h2⟩
theorem MapF.look_ok {w : World} {M : Nat} {f : ByteArray → Option Value} {N : Nat} (h : MapF w M f N) (k : ByteArray) (hk : k.size ≤ maxLen) :
    (Instr.lookup 53 (.map (some M)) (.string k) true).run Try.prog w = .ok (.tuple #[(f k).getD (.slice none 0 0), .bool (f k).isSome]) w := by
  obtain ⟨D, h1, h2, hr, h3, h4⟩ := h
  obtain ⟨v, ps, hrun, hv⟩ := h1.look_ok (t := 53) (e := 66) keyed9 Try.underlying53 (zeroC w) (chE_mk (v := .slice none 0 0) (.inl rfl)) (key := .string k) (kl := kS k) (Go.WideMaps.keyOf_string_mk Try.underlying9 hk)
  obtain ⟨hy, hz⟩ := chE_inv hv
  simp only [Prod.mk.injEq] at hz
  rw [hrun, h3 k]
  suffices e : v = (f k).getD (.slice none 0 0) by rw [e]
  cases hf : f k with
  | none =>
    have hh := h3 k
    rw [hf] at hh
    have := hz.1
    rw [Maps.atKey_of_not_has hh] at this
    rw [Option.getD_none]
    exact encC_inj hy (.inl rfl) this.symm
  | some u =>
    have e := h4 k u hf
    rw [Option.getD_some]
    exact encC_inj hy (hr k u hf) (hz.1.symm.trans e)
theorem MapF.look {w : World} {M : Nat} {f : ByteArray → Option Value} {N : Nat} (h : MapF w M f N) (k : ByteArray) (hk : k.size ≤ maxLen) :
    (Instr.lookup 53 (.map (some M)) (.string k) false).run Try.prog w = .ok ((f k).getD (.slice none 0 0)) w := by
  obtain ⟨D, h1, h2, hr, h3, h4⟩ := h
  obtain ⟨v, ps, hrun, hv⟩ := h1.lookup (t := 53) (e := 66) keyed9 Try.underlying53 (zeroC w) (chE_mk (v := .slice none 0 0) (.inl rfl)) (key := .string k) (kl := kS k) (Go.WideMaps.keyOf_string_mk Try.underlying9 hk)
  obtain ⟨hy, hz⟩ := chE_inv hv
  simp only [Prod.mk.injEq] at hz
  rw [hrun]
  suffices e : v = (f k).getD (.slice none 0 0) by rw [e]
  cases hf : f k with
  | none =>
    have hh := h3 k
    rw [hf] at hh
    have := hz.1
    rw [Maps.atKey_of_not_has hh] at this
    rw [Option.getD_none]
    exact encC_inj hy (.inl rfl) this.symm
  | some u =>
    have e := h4 k u hf
    rw [Option.getD_some]
    exact encC_inj hy (hr k u hf) (hz.1.symm.trans e)
theorem MapF.put {w : World} {M : Nat} {f : ByteArray → Option Value} {N : Nat} (h : MapF w M f N) (hN : N ≤ 1000000) (k : ByteArray) (hk : k.size ≤ maxLen) (v : Value) (hv : Rowy v) :
    ∃ w', (Instr.mapUpdate 53 (.map (some M)) (.string k) v).run Try.prog w = .ok () w' ∧ MapF w' M (putF f k v) (if (f k).isSome then N else N + 1) ∧ w.mapTurned w' M := by
  obtain ⟨D, h1, h2, hr, h3, h4⟩ := h
  obtain ⟨w', hrun, ho, ht⟩ := h1.store (t := 53) (e := 66) keyed9 Try.underlying53 (by unfold maxLen; omega) (key := .string k) (kl := kS k) (Go.WideMaps.keyOf_string_mk Try.underlying9 hk) (chE_mk hv)
  have htd := h1.tidy keyed9
  have hs := Maps.size_put (k := kS k) htd (encC v)
  refine ⟨w', hrun, ⟨D.put (kS k) (encC v), ?_, ?_, fun j x hx => ?_, fun j => ?_, fun j x hx => ?_⟩, ht⟩
  · have := ownsMap_tight ho
    rw [hs, h3 k, h2] at this
    exact this
  · rw [hs, h3 k, h2]
  · unfold putF at hx
    by_cases e : j = k
    · rw [if_pos e] at hx; cases hx; exact hv
    · rw [if_neg e] at hx; exact hr j x hx
  · unfold putF
    by_cases e : j = k
    · subst e
      rw [Maps.has_put_same htd.isMap (kS_key _)]
      simp
    · rw [Maps.has_put_other (kS_ne e), h3 j, if_neg e]
  · unfold putF at hx
    by_cases e : j = k
    · subst e
      rw [if_pos rfl] at hx
      cases hx
      exact Maps.atKey_put_same htd.isMap (kS_key _) _ _
    · rw [if_neg e] at hx
      rw [Maps.atKey_put_other (kS_ne e)]
      exact h4 j x hx
theorem MapF.del {w : World} {M : Nat} {f : ByteArray → Option Value} {N : Nat} (h : MapF w M f N) (k : ByteArray) (hk : k.size ≤ maxLen) (ty : TypeId) :
    ∃ w', (Builtin.delete_ #[53, 9] ty #[.map (some M), .string k]).run Try.prog w = .ok (.tuple #[]) w' ∧ MapF w' M (delF f k) (if (f k).isSome then N - 1 else N) ∧ w.mapTurned w' M := by
  obtain ⟨D, h1, h2, hr, h3, h4⟩ := h
  obtain ⟨w', hrun, ho, ht⟩ := h1.drop (t := 53) (e := 66) keyed9 Try.underlying53 (key := .string k) (kl := kS k) (Go.WideMaps.keyOf_string_mk Try.underlying9 hk) ty
  have htd := h1.tidy keyed9
  have hs := Maps.size_del (k := kS k) htd
  have hs' : Maps.size (D.del (kS k)) = if (f k).isSome then N - 1 else N := by
    rw [h3 k, h2] at hs
    cases hf : (f k).isSome <;> rw [hf] at hs <;> simp at hs ⊢ <;> omega
  refine ⟨w', hrun, ⟨D.del (kS k), ?_, hs', fun j x hx => ?_, fun j => ?_, fun j x hx => ?_⟩, ht⟩
  · have := ownsMap_tight ho
    rw [hs'] at this
    exact this
  · unfold delF at hx
    by_cases e : j = k
    · rw [if_pos e] at hx; cases hx
    · rw [if_neg e] at hx; exact hr j x hx
  · unfold delF
    by_cases e : j = k
    · subst e
      rw [Maps.has_del_same]
      simp
    · rw [Maps.has_del_other (kS_ne e), h3 j, if_neg e]
  · unfold delF at hx
    by_cases e : j = k
    · subst e
      rw [if_pos rfl] at hx
      cases hx
    · rw [if_neg e] at hx
      rw [Maps.atKey_del_other (kS_ne e)]
      exact h4 j x hx
/-- Block M is a map of chains. -/
def MapC (w : World) (M : Nat) (ch : ByteArray → List Ver) (N : Nat) : Prop :=
  ∃ f, MapF w M f N ∧ (∀ k v, f k = some v → ch k ≠ [] ∧ OwnV w 0 76 v (ch k)) ∧ (∀ k, f k = none → ch k = [])
/-- What may change of a map of chains, and the chains stay. -/
def NoCh (w : World) (F : Nat → Prop) : Prop := ∀ b cur, w.heap[b]? = some (.cells cur 76 (0, 0)) → ¬ F b
theorem MapC.chg {w w' : World} {M : Nat} {ch : ByteArray → List Ver} {N : Nat} (h : MapC w M ch N) {F : Nat → Prop} (hc : Chg F w w') (hF : ¬ F M) (hn : NoCh w F) : MapC w' M ch N := by
  obtain ⟨f, h1, h2, h3⟩ := h
  refine ⟨f, h1.chg hc hF, fun k v hk => ⟨(h2 k v hk).1, (h2 k v hk).2.chg hc fun b hb => ?_⟩, h3⟩
  obtain ⟨_, _, cur, hcur⟩ := (h2 k v hk).2.block hb
  exact hn b cur hcur
theorem MapC.kept {w w' : World} {M : Nat} {ch : ByteArray → List Ver} {N : Nat} (h : MapC w M ch N) (hb : Below w.heap.size w w') : MapC w' M ch N :=
  h.chg (F := fun _ => False) (Chg.of_below hb) id (fun _ _ _ => id)
theorem MapC.block {w : World} {M : Nat} {ch : ByteArray → List Ver} {N : Nat} (h : MapC w M ch N) : ∃ es clock, w.heap[M]? = some (.map es clock) := h.choose_spec.1.block
theorem MapC.lt {w : World} {M : Nat} {ch : ByteArray → List Ver} {N : Nat} (h : MapC w M ch N) : M < w.heap.size := by
  obtain ⟨es, clock, hb⟩ := h.block
  exact (Array.getElem?_eq_some_iff.1 hb).1
theorem MapC_made (w : World) : MapC (w.alloc (.map #[] 0)) w.heap.size (fun _ => []) 0 := ⟨fun _ => none, MapF_made w, ⟨fun _ _ h => by simp at h, fun _ _ => rfl⟩⟩
theorem MapC.look_ok {w : World} {M : Nat} {ch : ByteArray → List Ver} {N : Nat} (h : MapC w M ch N) (k : ByteArray) (hk : k.size ≤ maxLen) :
    ∃ v, RdV w v (ch k) ∧ (Instr.lookup 53 (.map (some M)) (.string k) true).run Try.prog w = .ok (.tuple #[v, .bool (!(ch k).isEmpty)]) w := by
  obtain ⟨f, h1, h2, h3⟩ := h
  have hr := h1.look_ok k hk
  refine ⟨(f k).getD (.slice none 0 0), ?_, ?_⟩
  · cases hf : f k with
    | none => rw [h3 k hf]; exact RdV_nil w
    | some v => exact (h2 k v hf).2.rd
  · rw [hr]
    suffices e : (f k).isSome = !(ch k).isEmpty by rw [e]
    cases hf : f k with
    | none => rw [h3 k hf]; rfl
    | some v =>
      have := (h2 k v hf).1
      cases hc : ch k with
      | nil => exact absurd hc this
      | cons x y => rfl
theorem MapC.look {w : World} {M : Nat} {ch : ByteArray → List Ver} {N : Nat} (h : MapC w M ch N) (k : ByteArray) (hk : k.size ≤ maxLen) :
    ∃ v, RdV w v (ch k) ∧ (Instr.lookup 53 (.map (some M)) (.string k) false).run Try.prog w = .ok v w := by
  obtain ⟨f, h1, h2, h3⟩ := h
  have hr := h1.look k hk
  refine ⟨(f k).getD (.slice none 0 0), ?_, hr⟩
  cases hf : f k with
  | none => rw [h3 k hf]; exact RdV_nil w
  | some v => exact (h2 k v hf).2.rd
theorem turned_noch {w w' : World} {M : Nat} (h : w.mapTurned w' M) : NoCh w (fun b => b = M) := by
  rintro b cur hb rfl
  obtain ⟨es, clock, _, _, h1, _⟩ := h
  rw [h1] at hb
  cases hb
theorem MapC.put {w : World} {M : Nat} {ch : ByteArray → List Ver} {N : Nat} (h : MapC w M ch N) (hN : N ≤ 1000000) (k : ByteArray) (hk : k.size ≤ maxLen) {v : Value} {L : List Ver} (hv : OwnV w 0 76 v L) (hL : L ≠ []) :
    ∃ w', (Instr.mapUpdate 53 (.map (some M)) (.string k) v).run Try.prog w = .ok () w' ∧ MapC w' M (fun j => if j = k then L else ch j) (if (ch k).isEmpty then N + 1 else N) ∧ w.mapTurned w' M := by
  obtain ⟨f, h1, h2, h3⟩ := h
  obtain ⟨w', hrun, hm, ht⟩ := h1.put hN k hk v hv.rowy
  have hc : Chg (fun b => b = M) w w' := Chg.turned ht rfl
  have hn := turned_noch ht
  have hkeep : ∀ {u : Value} {X : List Ver}, OwnV w 0 76 u X → OwnV w' 0 76 u X := fun ho => ho.chg hc fun b hb => by
    obtain ⟨_, _, cur, hcur⟩ := ho.block hb
    exact hn b cur hcur
  refine ⟨w', hrun, ⟨putF f k v, ?_, fun j x hx => ?_, fun j hx => ?_⟩, ht⟩
  · have : (if (ch k).isEmpty then N + 1 else N) = if (f k).isSome then N else N + 1 := by
      cases hf : f k with
      | none => rw [h3 k hf]; rfl
      | some u =>
        have := (h2 k u hf).1
        cases hc : ch k with
        | nil => exact absurd hc this
        | cons x y => rfl
    rw [this]
    exact hm
  · unfold putF at hx
    by_cases e : j = k
    · rw [if_pos e] at hx; cases hx; simp only [if_pos e]; exact ⟨hL, hkeep hv⟩
    · rw [if_neg e] at hx; simp only [if_neg e]; exact ⟨(h2 j x hx).1, hkeep (h2 j x hx).2⟩
  · unfold putF at hx
    by_cases e : j = k
    · rw [if_pos e] at hx; cases hx
    · rw [if_neg e] at hx; simp only [if_neg e]; exact h3 j hx
theorem MapC.del {w : World} {M : Nat} {ch : ByteArray → List Ver} {N : Nat} (h : MapC w M ch N) (k : ByteArray) (hk : k.size ≤ maxLen) (ty : TypeId) :
    ∃ w', (Builtin.delete_ #[53, 9] ty #[.map (some M), .string k]).run Try.prog w = .ok (.tuple #[]) w' ∧ MapC w' M (fun j => if j = k then [] else ch j) (if (ch k).isEmpty then N else N - 1) ∧ w.mapTurned w' M := by
  obtain ⟨f, h1, h2, h3⟩ := h
  obtain ⟨w', hrun, hm, ht⟩ := h1.del k hk ty
  have hc : Chg (fun b => b = M) w w' := Chg.turned ht rfl
  have hn := turned_noch ht
  have hkeep : ∀ {u : Value} {X : List Ver}, OwnV w 0 76 u X → OwnV w' 0 76 u X := fun ho => ho.chg hc fun b hb => by
    obtain ⟨_, _, cur, hcur⟩ := ho.block hb
    exact hn b cur hcur
  refine ⟨w', hrun, ⟨delF f k, ?_, fun j x hx => ?_, fun j hx => ?_⟩, ht⟩
  · have : (if (ch k).isEmpty then N else N - 1) = if (f k).isSome then N - 1 else N := by
      cases hf : f k with
      | none => rw [h3 k hf]; rfl
      | some u =>
        have := (h2 k u hf).1
        cases hc : ch k with
        | nil => exact absurd hc this
        | cons x y => rfl
    rw [this]
    exact hm
  · unfold delF at hx
    by_cases e : j = k
    · rw [if_pos e] at hx; cases hx
    · rw [if_neg e] at hx; simp only [if_neg e]; exact ⟨(h2 j x hx).1, hkeep (h2 j x hx).2⟩
  · unfold delF at hx
    by_cases e : j = k
    · simp only [if_pos e]
    · rw [if_neg e] at hx; simp only [if_neg e]; exact h3 j hx
end Go.Proofs.Ytgaoionnfkbhaaa
