/-
  Texts that ride together: Chg StP StM StS StG StB StR StH StQ.
-/
import Derived.Test.YtcicekggeampcaaGreatGG
import Derived.Test.YtcicekggeampcaaGreatGCb
import Derived.Maps.OwnSet
import Derived.Test.YtcicekggeampcaaGreatGQ
import Derived.RangeFuncNested
import Derived.RangeFuncLeaves
import Derived.RangeFuncBound
import Derived.Test.YtcicekggeampcaaGreatGBb
import Derived.RangeFuncCalls
import Derived.Shelf.Abstract
import Derived.Shelf.RegionOpen
import Derived.WalkKit
import Derived.OwnWalkIn
import Derived.TacticsInMore
import Derived.LoopNIn
import Derived.LoopIn
/-
  What may change; rows of elements of any make in memory: what one reads as, what the call owns.
-/
namespace Go.Proofs.YtcicekggeampcaaGreat
open Go.RowKit

section
variable {α : Type} {E : Enc α}
theorem RdV.chg {w w' : World} {v : Value} {L : List Ver} {F : Nat → Prop} (h : RdV w v L) (hc : Chg F w w') (hF : ∀ b, InB v b → ¬ F b) : RdV w' v L := by
  obtain ⟨a, cap, rfl, h1, h2, h3, h4⟩ := h
  refine ⟨a, cap, rfl, h1, h2, h3, fun hl => ?_⟩
  obtain ⟨b, off, rfl, hlt, hcell⟩ := h4 hl
  refine ⟨b, off, rfl, Nat.lt_of_lt_of_le hlt hc.size, fun j u hj => ?_⟩
  rw [← hcell j u hj]
  simp only [World.cell?]
  rw [hc.block b hlt (hF b ⟨off, _, _, rfl, hl⟩)]
end
end Go.Proofs.YtcicekggeampcaaGreat

/-
  A store, plain: what all keys had; keys in order.
-/
namespace Go.Proofs.YtcicekggeampcaaGreat
open Go.RowKit
/-- Keys in order. -/
def Srt (ks : List ByteArray) : Prop := ks.Pairwise fun a b => lt a b = true
theorem srt_unique : ∀ {a b : List ByteArray}, Srt a → Srt b → (∀ k, k ∈ a ↔ k ∈ b) → a = b
  | [], [], _, _, _ => rfl
  | [], y :: b, _, _, h => by have := (h y).2 (by simp); simp at this
  | x :: a, [], _, _, h => by have := (h x).1 (by simp); simp at this
  | x :: a, y :: b, ha, hb, h => by
    obtain ⟨ha1, ha2⟩ := List.pairwise_cons.1 ha
    obtain ⟨hb1, hb2⟩ := List.pairwise_cons.1 hb
    have e : x = y := by
      rcases List.mem_cons.1 ((h x).1 (by simp)) with e | hx
      · exact e
      · rcases List.mem_cons.1 ((h y).2 (by simp)) with e | hy
        · exact e.symm
        · have := lt_trans (hb1 x hx) (ha1 y hy)
          rw [lt_irrefl] at this
          cases this
    subst e
    rw [srt_unique ha2 hb2 fun k => ?_]
    constructor
    · intro hk
      rcases List.mem_cons.1 ((h k).1 (by simp [hk])) with e | h'
      · subst e
        have := ha1 k hk
        rw [lt_irrefl] at this
        cases this
      · exact h'
    · intro hk
      rcases List.mem_cons.1 ((h k).2 (by simp [hk])) with e | h'
      · subst e
        have := hb1 k hk
        rw [lt_irrefl] at this
        cases this
      · exact h'
/-- How many keys are below one. -/
def lb (ks : List ByteArray) (t : ByteArray) : Nat := (ks.takeWhile fun k => lt k t).length
theorem lb_le (ks : List ByteArray) (t : ByteArray) : lb ks t ≤ ks.length := (List.takeWhile_sublist _).length_le
theorem lb_at : ∀ {ks : List ByteArray} {t : ByteArray}, Srt ks → ∀ {i : Nat} (hi : i < ks.length), lt ks[i] t = decide (i < lb ks t)
  | [], _, _, i, hi => by simp at hi
  | k :: ks, t, hs, i, hi => by
    obtain ⟨h1, h2⟩ := List.pairwise_cons.1 hs
    unfold lb
    rw [List.takeWhile_cons]
    cases hk : lt k t with
    | false =>
      rw [if_neg (by simp)]
      cases i with
      | zero => simp [hk]
      | succ i =>
        have hm : ks[i]'(by simpa using hi) ∈ ks := List.getElem_mem _
        have := h1 _ hm
        cases hq : lt (ks[i]'(by simpa using hi)) t with
        | false => simp [hq]
        | true => rw [lt_trans this hq] at hk; cases hk
    | true =>
      rw [if_pos (by simp)]
      cases i with
      | zero => simp [hk]
      | succ i =>
        have := lb_at h2 (t := t) (i := i) (by simpa using hi)
        unfold lb at this
        simp [this]
theorem lb_take {ks : List ByteArray} {t : ByteArray} (hs : Srt ks) : ∀ k ∈ ks.take (lb ks t), lt k t = true := by
  intro k hk
  obtain ⟨i, hi, rfl⟩ := List.getElem_of_mem hk
  rw [List.length_take] at hi
  rw [List.getElem_take, lb_at hs (by omega)]
  simp
  omega
theorem lb_drop {ks : List ByteArray} {t : ByteArray} (hs : Srt ks) : ∀ k ∈ ks.drop (lb ks t), lt k t = false := by
  intro k hk
  obtain ⟨i, hi, rfl⟩ := List.getElem_of_mem hk
  rw [List.length_drop] at hi
  rw [List.getElem_drop, lb_at hs (by omega)]
  simp
/-- Is the key there? -/
def sfnd (ks : List ByteArray) (t : ByteArray) : Bool := (ks[lb ks t]?).any fun k => k.toList == t.toList

/-- A store. -/
structure SP where
  ch : ByteArray → List Ver
  last : Int
  floor : Int
def sp0 : SP := ⟨fun _ => [], 0, 0⟩
structure Inv (s : SP) (ks : List ByteArray) : Prop where
  srt : Srt ks
  mem : ∀ k, k ∈ ks ↔ s.ch k ≠ []
  good : ∀ k, gd 0 (s.ch k) = true
  le : ∀ k, ∀ v ∈ s.ch k, v.1 ≤ s.last
  fl : 0 ≤ s.floor
  fle : s.floor ≤ s.last
theorem inv0 : Inv sp0 [] := ⟨List.Pairwise.nil, by simp [sp0], fun _ => rfl, by simp [sp0], Int.le_refl _, Int.le_refl _⟩
theorem Inv.unique {s : SP} {a b : List ByteArray} (ha : Inv s a) (hb : Inv s b) : a = b := srt_unique ha.srt hb.srt fun k => (ha.mem k).trans (hb.mem k).symm
/-- May the pair stand behind one of that key? -/
def pOk (p : Pr) (last : ByteArray) : Bool := lt last p.1 && decide (p.1.size ≤ 64) && decide (p.2.1.size ≤ 256) && (!p.2.2 || p.2.1.toList.isEmpty)
def goodP : ByteArray → List Pr → Bool
  | _, [] => true
  | last, p :: l => pOk p last && goodP p.1 l
def verOf (n : Int) (p : Pr) : Ver := (n, p.2.1, p.2.2)
def add1 (ch : ByteArray → List Ver) (n : Int) (p : Pr) : ByteArray → List Ver := fun k => if k = p.1 then ch k ++ [verOf n p] else ch k
def addL (ch : ByteArray → List Ver) (n : Int) (l : List Pr) : ByteArray → List Ver := l.foldl (fun c p => add1 c n p) ch
def instOk (s : SP) (n : Int) (l : List Pr) : Bool := goodP em l && decide (n = s.last + 1)
def instP (s : SP) (n : Int) (l : List Pr) : SP := if instOk s n l = true then ⟨addL s.ch n l, n, s.floor⟩ else s
def smayP (s : SP) (n : Int) : Int := if n < s.floor then 11 else if s.last < n then 2 else 0
def collOk (s : SP) (n : Int) : Bool := decide (s.floor ≤ n) && decide (n ≤ s.last)
def collP (s : SP) (n : Int) : SP := if collOk s n = true then ⟨fun k => trimP (s.ch k) n, s.last, n⟩ else s
def getS (s : SP) (k : ByteArray) (n : Int) : ByteArray × Int :=
  if smayP s n = 0 then (if (getP (s.ch k) n).2 = true then ((getP (s.ch k) n).1.2.1, 0) else (em, 8)) else (em, smayP s n)
def inr (a b k : ByteArray) : Bool := !lt k a && lt k b
def scan1 (s : SP) (n : Int) (k : ByteArray) : Option Pr := if (getP (s.ch k) n).2 = true then some (k, (getP (s.ch k) n).1.2.1, false) else none
def scanL (s : SP) (ks : List ByteArray) (a b : ByteArray) (n : Int) : List Pr := (ks.filter (inr a b)).filterMap (scan1 s n)
def scanS (s : SP) (ks : List ByteArray) (a b : ByteArray) (n most : Int) : List Pr × Int := if smayP s n = 0 then ((scanL s ks a b n).take most.toNat, 0) else ([], smayP s n)
def wroteS (s : SP) (k : ByteArray) (n : Int) : Bool := decide (0 < sinceP (s.ch k) n)
def withinS (s : SP) (ks : List ByteArray) (a b : ByteArray) (n : Int) : Bool := (ks.filter (inr a b)).any fun k => wroteS s k n
def versS (s : SP) (ks : List ByteArray) : Nat := (ks.map fun k => (s.ch k).length).sum
end Go.Proofs.YtcicekggeampcaaGreat

/-
  Strings, pairs in rows; a map of chains; a Store in memory.
-/
namespace Go.Proofs.YtcicekggeampcaaGreat
open Go.RowKit
def KE : Enc ByteArray := ⟨fun k => [.string k], 1, fun _ => rfl, fun x u hu => by simp at hu; subst hu; rfl⟩
/-- How a chain's slice is told. -/
def encC : Value → DataW Unit
  | .slice (some a) n cap => .agg [.lit (.int .i64 a.block), .lit (.int .i64 n), .lit (.int .i64 cap)]
  | _ => .nil
def chE : Value → Option (DataW Unit × List MemPlace)
  | .slice none 0 0 => some (.nil, [])
  | .slice (some ⟨b, 0, none⟩) n cap => some (.agg [.lit (.int .i64 b), .lit (.int .i64 n), .lit (.int .i64 cap)], [])
  | _ => none
/-- A slice as a row owns it. -/
def Rowy (v : Value) : Prop := v = .slice none 0 0 ∨ ∃ g n cap, v = .slice (some ⟨g, 0, none⟩) n cap
theorem chE_mk {v : Value} (h : Rowy v) : chE v = some (encC v, []) := by
  rcases h with rfl | ⟨g, n, cap, rfl⟩ <;> rfl
theorem chE_inv {v : Value} {z : DataW Unit × List MemPlace} (h : chE v = some z) : Rowy v ∧ z = (encC v, []) := by
  unfold chE at h
  split at h
  · cases h; exact ⟨.inl rfl, rfl⟩
  · cases h; exact ⟨.inr ⟨_, _, _, rfl⟩, rfl⟩
  · cases h
theorem encC_inj {u v : Value} (hu : Rowy u) (hv : Rowy v) (h : encC u = encC v) : u = v := by
  rcases hu with rfl | ⟨g, n, cap, rfl⟩ <;> rcases hv with rfl | ⟨g', n', cap', rfl⟩
  · rfl
  · simp [encC] at h
  · simp [encC] at h
  · simp [encC] at h
    obtain ⟨h1, h2, h3⟩ := h
    obtain rfl : g = g' := by omega
    obtain rfl : n = n' := by omega
    obtain rfl : cap = cap' := by omega
    rfl
theorem OwnV.rowy {w : World} {B : Nat} {e : TypeId} {v : Value} {L : List Ver} (h : OwnV w B e v L) : Rowy v := by
  obtain ⟨h1, h2⟩ := h
  rcases h2 with ⟨rfl, _⟩ | ⟨g, cap, cur, rfl, _⟩
  · exact .inl rfl
  · exact .inr ⟨_, _, _, rfl⟩
theorem OwnV.block {w : World} {B : Nat} {e : TypeId} {v : Value} {L : List Ver} (h : OwnV w B e v L) {b : Nat} (hb : v.ownBlock = some b) : B ≤ b ∧ b < w.heap.size ∧ ∃ cur, w.heap[b]? = some (.cells cur e (0, 0)) := by
  obtain ⟨h1, h2⟩ := h
  rcases h2 with ⟨rfl, _⟩ | ⟨g, cap, cur, rfl, hg, hh, r⟩
  · cases hb
  · cases hb
    exact ⟨hg, (Array.getElem?_eq_some_iff.1 hh).1, cur, hh⟩
theorem OwnV.chg {w w' : World} {B : Nat} {e : TypeId} {v : Value} {L : List Ver} {F : Nat → Prop} (h : OwnV w B e v L) (hc : Chg F w w') (hF : ∀ b, v.ownBlock = some b → ¬ F b) : OwnV w' B e v L := by
  obtain ⟨h1, h2⟩ := h
  refine ⟨h1, ?_⟩
  rcases h2 with h2 | ⟨g, cap, cur, hv, hg, hh, r⟩
  · exact Or.inl h2
  · have hlt : g < w.heap.size := (Array.getElem?_eq_some_iff.1 hh).1
    exact Or.inr ⟨g, cap, cur, hv, hg, by rw [hc.block g hlt (hF g (by rw [hv]; rfl))]; exact hh, r⟩
theorem zeroC (w : World) : (zeroValue 111).run Tryz.prog w = .ok (.slice none 0 0) w := by kernel_rfl
/-- Block M is a map of N slices by keys: f. -/
def MapF (w : World) (M : Nat) (f : ByteArray → Option Value) (N : Nat) : Prop :=
  ∃ D : DataW Unit, w.ownsMap Tryz.prog 9 chE M N D ∧ Maps.size D = N ∧ (∀ k v, f k = some v → Rowy v) ∧
    (∀ k, Maps.has D (kS k) = (f k).isSome) ∧ (∀ k v, f k = some v → D.atKey (kS k) .nil = encC v)
def putF (f : ByteArray → Option Value) (k : ByteArray) (v : Value) : ByteArray → Option Value := fun j => if j = k then some v else f j
def delF (f : ByteArray → Option Value) (k : ByteArray) : ByteArray → Option Value := fun j => if j = k then none else f j
theorem MapF.chg {w w' : World} {M : Nat} {f : ByteArray → Option Value} {N : Nat} (h : MapF w M f N) {F : Nat → Prop} (hc : Chg F w w') (hF : ¬ F M) : MapF w' M f N := by
  obtain ⟨D, ⟨es, clock, hb, r⟩, h2⟩ := h
  exact ⟨D, ⟨es, clock, (hc.block M (Array.getElem?_eq_some_iff.1 hb).1 hF).trans hb, r⟩, h2⟩
theorem MapF.block {w : World} {M : Nat} {f : ByteArray → Option Value} {N : Nat} (h : MapF w M f N) : ∃ es clock, w.heap[M]? = some (.map es clock) := by
  obtain ⟨D, ⟨es, clock, hb, r⟩, h2⟩ := h
  exact ⟨es, clock, hb⟩
theorem MapF_made (w : World) : MapF (w.alloc (.map #[] 0)) w.heap.size (fun _ => none) 0 :=
  ⟨.map [], World.ownsMap_made w _ _ _, rfl, ⟨fun _ _ h => by simp at h, fun _ => rfl, fun _ _ h => by simp at h⟩⟩
theorem MapF.look_ok {w : World} {M : Nat} {f : ByteArray → Option Value} {N : Nat} (h : MapF w M f N) (k : ByteArray) (hk : k.size ≤ maxLen) :
    (Instr.lookup 62 (.map (some M)) (.string k) true).run Tryz.prog w = .ok (.tuple #[(f k).getD (.slice none 0 0), .bool (f k).isSome]) w := by
  obtain ⟨D, h1, h2, hr, h3, h4⟩ := h
  obtain ⟨v, ps, hrun, hv⟩ := h1.look_ok (t := 62) (e := 111) keyed9 Tryz.underlying62 (zeroC w) (chE_mk (v := .slice none 0 0) (.inl rfl)) (key := .string k) (kl := kS k) (Go.WideMaps.keyOf_string_mk Tryz.underlying9 hk)
  obtain ⟨hy, hz⟩ := chE_inv hv
  simp only [Prod.mk.injEq] at hz
  rw [hrun, h3 k]
  suffices e : v = (f k).getD (.slice none 0 0) by rw [e]
  cases hf : f k with
  | none =>
    have hh := h3 k
    rw [hf] at hh
    have := hz.1
    rw [Maps.atKey_of_not_has hh] at this
    rw [Option.getD_none]
    exact encC_inj hy (.inl rfl) this.symm
  | some u =>
    have e := h4 k u hf
    rw [Option.getD_some]
    exact encC_inj hy (hr k u hf) (hz.1.symm.trans e)
theorem MapF.look {w : World} {M : Nat} {f : ByteArray → Option Value} {N : Nat} (h : MapF w M f N) (k : ByteArray) (hk : k.size ≤ maxLen) :
    (Instr.lookup 62 (.map (some M)) (.string k) false).run Tryz.prog w = .ok ((f k).getD (.slice none 0 0)) w := by
  obtain ⟨D, h1, h2, hr, h3, h4⟩ := h
  obtain ⟨v, ps, hrun, hv⟩ := h1.lookup (t := 62) (e := 111) keyed9 Tryz.underlying62 (zeroC w) (chE_mk (v := .slice none 0 0) (.inl rfl)) (key := .string k) (kl := kS k) (Go.WideMaps.keyOf_string_mk Tryz.underlying9 hk)
  obtain ⟨hy, hz⟩ := chE_inv hv
  simp only [Prod.mk.injEq] at hz
  rw [hrun]
  suffices e : v = (f k).getD (.slice none 0 0) by rw [e]
  cases hf : f k with
  | none =>
    have hh := h3 k
    rw [hf] at hh
    have := hz.1
    rw [Maps.atKey_of_not_has hh] at this
    rw [Option.getD_none]
    exact encC_inj hy (.inl rfl) this.symm
  | some u =>
    have e := h4 k u hf
    rw [Option.getD_some]
    exact encC_inj hy (hr k u hf) (hz.1.symm.trans e)
theorem MapF.put {w : World} {M : Nat} {f : ByteArray → Option Value} {N : Nat} (h : MapF w M f N) (hN : N ≤ 1000000) (k : ByteArray) (hk : k.size ≤ maxLen) (v : Value) (hv : Rowy v) :
    ∃ w', (Instr.mapUpdate 62 (.map (some M)) (.string k) v).run Tryz.prog w = .ok () w' ∧ MapF w' M (putF f k v) (if (f k).isSome then N else N + 1) ∧ w.mapTurned w' M := by
  obtain ⟨D, h1, h2, hr, h3, h4⟩ := h
  obtain ⟨w', hrun, ho, ht⟩ := h1.store (t := 62) (e := 111) keyed9 Tryz.underlying62 (by unfold maxLen; omega) (key := .string k) (kl := kS k) (Go.WideMaps.keyOf_string_mk Tryz.underlying9 hk) (chE_mk hv)
  have htd := h1.tidy keyed9
  have hs := Maps.size_put (k := kS k) htd (encC v)
  refine ⟨w', hrun, ⟨D.put (kS k) (encC v), ?_, ?_, fun j x hx => ?_, fun j => ?_, fun j x hx => ?_⟩, ht⟩
  · have := ownsMap_tight ho
    rw [hs, h3 k, h2] at this
    exact this
  · rw [hs, h3 k, h2]
  · unfold putF at hx
    by_cases e : j = k
    · rw [if_pos e] at hx; cases hx; exact hv
    · rw [if_neg e] at hx; exact hr j x hx
  · unfold putF
    by_cases e : j = k
    · subst e
      rw [Maps.has_put_same htd.isMap (kS_key _)]
      simp
    · rw [Maps.has_put_other (kS_ne e), h3 j, if_neg e]
  · unfold putF at hx
    by_cases e : j = k
    · subst e
      rw [if_pos rfl] at hx
      cases hx
      exact Maps.atKey_put_same htd.isMap (kS_key _) _ _
    · rw [if_neg e] at hx
      rw [Maps.atKey_put_other (kS_ne e)]
      exact h4 j x hx
theorem MapF.del {w : World} {M : Nat} {f : ByteArray → Option Value} {N : Nat} (h : MapF w M f N) (k : ByteArray) (hk : k.size ≤ maxLen) (ty : TypeId) :
    ∃ w', (Builtin.delete_ #[62, 9] ty #[.map (some M), .string k]).run Tryz.prog w = .ok (.tuple #[]) w' ∧ MapF w' M (delF f k) (if (f k).isSome then N - 1 else N) ∧ w.mapTurned w' M := by
  obtain ⟨D, h1, h2, hr, h3, h4⟩ := h
  obtain ⟨w', hrun, ho, ht⟩ := h1.drop (t := 62) (e := 111) keyed9 Tryz.underlying62 (key := .string k) (kl := kS k) (Go.WideMaps.keyOf_string_mk Tryz.underlying9 hk) ty
  have htd := h1.tidy keyed9
  have hs := Maps.size_del (k := kS k) htd
  have hs' : Maps.size (D.del (kS k)) = if (f k).isSome then N - 1 else N := by
    rw [h3 k, h2] at hs
    cases hf : (f k).isSome <;> rw [hf] at hs <;> simp at hs ⊢ <;> omega
  refine ⟨w', hrun, ⟨D.del (kS k), ?_, hs', fun j x hx => ?_, fun j => ?_, fun j x hx => ?_⟩, ht⟩
  · have := ownsMap_tight ho
    rw [hs'] at this
    exact this
  · unfold delF at hx
    by_cases e : j = k
    · rw [if_pos e] at hx; cases hx
    · rw [if_neg e] at hx; exact hr j x hx
  · unfold delF
    by_cases e : j = k
    · subst e
      rw [Maps.has_del_same]
      simp
    · rw [Maps.has_del_other (kS_ne e), h3 j, if_neg e]
  · unfold delF at hx
    by_cases e : j = k
    · subst e
      rw [if_pos rfl] at hx
      cases hx
    · rw [if_neg e] at hx
      rw [Maps.atKey_del_other (kS_ne e)]
      exact h4 j x hx
/-- Block M is a map of chains. -/
def MapC (w : World) (M : Nat) (ch : ByteArray → List Ver) (N : Nat) : Prop :=
  ∃ f, MapF w M f N ∧ (∀ k v, f k = some v → ch k ≠ [] ∧ OwnV w 0 115 v (ch k)) ∧ (∀ k, f k = none → ch k = [])
/-- What may change of a map of chains, and the chains stay. -/
def NoCh (w : World) (F : Nat → Prop) : Prop := ∀ b cur, w.heap[b]? = some (.cells cur 115 (0, 0)) → ¬ F b
theorem MapC.chg {w w' : World} {M : Nat} {ch : ByteArray → List Ver} {N : Nat} (h : MapC w M ch N) {F : Nat → Prop} (hc : Chg F w w') (hF : ¬ F M) (hn : NoCh w F) : MapC w' M ch N := by
  obtain ⟨f, h1, h2, h3⟩ := h
  refine ⟨f, h1.chg hc hF, fun k v hk => ⟨(h2 k v hk).1, (h2 k v hk).2.chg hc fun b hb => ?_⟩, h3⟩
  obtain ⟨_, _, cur, hcur⟩ := (h2 k v hk).2.block hb
  exact hn b cur hcur
theorem MapC.kept {w w' : World} {M : Nat} {ch : ByteArray → List Ver} {N : Nat} (h : MapC w M ch N) (hb : Below w.heap.size w w') : MapC w' M ch N :=
  h.chg (F := fun _ => False) (Chg.of_below hb) id (fun _ _ _ => id)
theorem MapC.block {w : World} {M : Nat} {ch : ByteArray → List Ver} {N : Nat} (h : MapC w M ch N) : ∃ es clock, w.heap[M]? = some (.map es clock) := h.choose_spec.1.block
theorem MapC.lt {w : World} {M : Nat} {ch : ByteArray → List Ver} {N : Nat} (h : MapC w M ch N) : M < w.heap.size := by
  obtain ⟨es, clock, hb⟩ := h.block
  exact (Array.getElem?_eq_some_iff.1 hb).1
theorem MapC_made (w : World) : MapC (w.alloc (.map #[] 0)) w.heap.size (fun _ => []) 0 := ⟨fun _ => none, MapF_made w, ⟨fun _ _ h => by simp at h, fun _ _ => rfl⟩⟩
theorem turned_noch {w w' : World} {M : Nat} (h : w.mapTurned w' M) : NoCh w (fun b => b = M) := by
  rintro b cur hb rfl
  obtain ⟨es, clock, _, _, h1, _⟩ := h
  rw [h1] at hb
  cases hb
theorem MapC.put {w : World} {M : Nat} {ch : ByteArray → List Ver} {N : Nat} (h : MapC w M ch N) (hN : N ≤ 1000000) (k : ByteArray) (hk : k.size ≤ maxLen) {v : Value} {L : List Ver} (hv : OwnV w 0 115 v L) (hL : L ≠ []) :
    ∃ w', (Instr.mapUpdate 62 (.map (some M)) (.string k) v).run Tryz.prog w = .ok () w' ∧ MapC w' M (fun j => if j = k then L else ch j) (if (ch k).isEmpty then N + 1 else N) ∧ w.mapTurned w' M := by
  obtain ⟨f, h1, h2, h3⟩ := h
  obtain ⟨w', hrun, hm, ht⟩ := h1.put hN k hk v hv.rowy
  have hc : Chg (fun b => b = M) w w' := Chg.turned ht rfl
  have hn := turned_noch ht
  have hkeep : ∀ {u : Value} {X : List Ver}, OwnV w 0 115 u X → OwnV w' 0 115 u X := fun ho => ho.chg hc fun b hb => by
    obtain ⟨_, _, cur, hcur⟩ := ho.block hb
    exact hn b cur hcur
  refine ⟨w', hrun, ⟨putF f k v, ?_, fun j x hx => ?_, fun j hx => ?_⟩, ht⟩
  · have : (if (ch k).isEmpty then N + 1 else N) = if (f k).isSome then N else N + 1 := by
      cases hf : f k with
      | none => rw [h3 k hf]; rfl
      | some u =>
        have := (h2 k u hf).1
        cases hc : ch k with
        | nil => exact absurd hc this
        | cons x y => rfl
    rw [this]
    exact hm
  · unfold putF at hx
    by_cases e : j = k
    · rw [if_pos e] at hx; cases hx; simp only [if_pos e]; exact ⟨hL, hkeep hv⟩
    · rw [if_neg e] at hx; simp only [if_neg e]; exact ⟨(h2 j x hx).1, hkeep (h2 j x hx).2⟩
  · unfold putF at hx
    by_cases e : j = k
    · rw [if_pos e] at hx; cases hx
    · rw [if_neg e] at hx; simp only [if_neg e]; exact h3 j hx
theorem MapC.del {w : World} {M : Nat} {ch : ByteArray → List Ver} {N : Nat} (h : MapC w M ch N) (k : ByteArray) (hk : k.size ≤ maxLen) (ty : TypeId) :
    ∃ w', (Builtin.delete_ #[62, 9] ty #[.map (some M), .string k]).run Tryz.prog w = .ok (.tuple #[]) w' ∧ MapC w' M (fun j => if j = k then [] else ch j) (if (ch k).isEmpty then N else N - 1) ∧ w.mapTurned w' M := by
  obtain ⟨f, h1, h2, h3⟩ := h
  obtain ⟨w', hrun, hm, ht⟩ := h1.del k hk ty
  have hc : Chg (fun b => b = M) w w' := Chg.turned ht rfl
  have hn := turned_noch ht
  have hkeep : ∀ {u : Value} {X : List Ver}, OwnV w 0 115 u X → OwnV w' 0 115 u X := fun ho => ho.chg hc fun b hb => by
    obtain ⟨_, _, cur, hcur⟩ := ho.block hb
    exact hn b cur hcur
  refine ⟨w', hrun, ⟨delF f k, ?_, fun j x hx => ?_, fun j hx => ?_⟩, ht⟩
  · have : (if (ch k).isEmpty then N else N - 1) = if (f k).isSome then N - 1 else N := by
      cases hf : f k with
      | none => rw [h3 k hf]; rfl
      | some u =>
        have := (h2 k u hf).1
        cases hc : ch k with
        | nil => exact absurd hc this
        | cons x y => rfl
    rw [this]
    exact hm
  · unfold delF at hx
    by_cases e : j = k
    · rw [if_pos e] at hx; cases hx
    · rw [if_neg e] at hx; simp only [if_neg e]; exact ⟨(h2 j x hx).1, hkeep (h2 j x hx).2⟩
  · unfold delF at hx
    by_cases e : j = k
    · simp only [if_pos e]
    · rw [if_neg e] at hx; simp only [if_neg e]; exact h3 j hx
end Go.Proofs.YtcicekggeampcaaGreat

/-
  A Store in memory; New, isMade, Last, Floor, asked: what the calls do.
-/
namespace Go.Proofs.YtcicekggeampcaaGreat
open Go.RowKit
/-- The cells of a Store. -/
def SB (M : Nat) (vk : Value) (last floor : Int) : List Value := [.map (some M), vk, .int .i64 last, .int .i64 floor]
/-- Block D is a Store: its map is block M, its keys lie in the row of vk. -/
structure StAt (w : World) (D M : Nat) (vk : Value) (ks : List ByteArray) (s : SP) : Prop where
  d : Blk w D 65 (SB M vk s.last s.floor)
  mp : MapC w M s.ch ks.length
  kk : OwnG KE w 0 9 vk ks
  inv : Inv s ks
  sz : ∀ k ∈ ks, k.size ≤ 64
/-- The blocks that a Store's calls may change. -/
def Mine (D M : Nat) (vk : Value) (b : Nat) : Prop := b = D ∨ b = M ∨ vk.ownBlock = some b
theorem StAt.ne {w : World} {D M : Nat} {vk : Value} {ks : List ByteArray} {s : SP} (h : StAt w D M vk ks s) : D ≠ M := fun e => by
  obtain ⟨es, clock, hb⟩ := h.mp.block
  have := h.d
  rw [e] at this
  unfold Blk at this
  rw [hb] at this
  cases this
theorem StAt.kd {w : World} {D M : Nat} {vk : Value} {ks : List ByteArray} {s : SP} (h : StAt w D M vk ks s) {b : Nat} (hb : vk.ownBlock = some b) : b ≠ D ∧ b ≠ M := by
  obtain ⟨_, _, cur, hc⟩ := h.kk.block hb
  refine ⟨fun e => ?_, fun e => ?_⟩
  · have := h.d
    rw [← e] at this
    unfold Blk at this
    rw [hc] at this
    cases this
  · obtain ⟨es, clock, hb'⟩ := h.mp.block
    rw [← e, hc] at hb'
    cases hb'
theorem StAt.lt {w : World} {D M : Nat} {vk : Value} {ks : List ByteArray} {s : SP} (h : StAt w D M vk ks s) {b : Nat} (hb : Mine D M vk b) : b < w.heap.size := by
  rcases hb with rfl | rfl | hv
  · exact h.d.lt
  · exact h.mp.lt
  · exact (h.kk.block hv).2.1
/-- What changes no block of it, and no chain, leaves it. -/
theorem StAt.chg {w w' : World} {D M : Nat} {vk : Value} {ks : List ByteArray} {s : SP} (h : StAt w D M vk ks s) {F : Nat → Prop} (hc : Chg F w w') (h1 : ∀ b, Mine D M vk b → ¬ F b) (hn : NoCh w F) : StAt w' D M vk ks s :=
  ⟨h.d.chg hc (h1 _ (.inl rfl)), h.mp.chg hc (h1 _ (.inr (.inl rfl))) hn, h.kk.chg hc (fun b hb => h1 b (.inr (.inr hb))), h.inv, h.sz⟩
theorem StAt.kept {w w' : World} {D M : Nat} {vk : Value} {ks : List ByteArray} {s : SP} (h : StAt w D M vk ks s) (hb : Below w.heap.size w w') : StAt w' D M vk ks s :=
  h.chg (F := fun _ => False) (Chg.of_below hb) (fun _ _ => id) (fun _ _ _ => id)
theorem gd_len : ∀ {L : List Ver} {last : Int}, gd last L = true → ∀ {m : Int}, (∀ v ∈ L, v.1 ≤ m) → last ≤ m → (L.length : Int) ≤ m - last
  | [], last, _, m, _, h => by simp; omega
  | v :: L, last, hg, m, hm, _ => by
    have hr := (gd_rise hg).2 v (by simp)
    rw [gd, Bool.and_eq_true] at hg
    have := gd_len hg.2 (m := m) (fun u hu => hm u (by simp [hu])) (hm v (by simp))
    rw [List.length_cons]
    push_cast
    omega
theorem Inv.len {s : SP} {ks : List ByteArray} (h : Inv s ks) (k : ByteArray) : ((s.ch k).length : Int) ≤ s.last := by
  have := gd_len (h.good k) (m := s.last) (h.le k) (by have := h.fl; have := h.fle; omega)
  omega
section
variable {w : World} {D M : Nat} {vk : Value} {last floor : Int}
set_option maxRecDepth 100000 in
theorem sMade_any (hB : Blk w D 65 (SB M vk last floor)) : Calls Tryz.prog 59 #[.pointer (some ⟨D, 0, none⟩)] w fun e w' => e = .returned (.bool true) ∧ w' = w := by
  have c0 := hB.cell (j := 0) rfl
  clear hB
  have hne : ∀ W : World, (binOp .neq 62 (.map (some M)) (.map none)).run Tryz.prog W = .ok (.bool true) W := fun W => by kernel_rfl
  go_enter Tryz.func59, Tryz.ntmps59
  go_wp2
  go_ret
  exact ⟨rfl, rfl⟩
set_option maxRecDepth 100000 in
theorem sLast_any (hB : Blk w D 65 (SB M vk last floor)) : Calls Tryz.prog 30 #[.pointer (some ⟨D, 0, none⟩)] w fun e w' => e = .returned (.int .i64 last) ∧ w' = w := by
  have c2 := hB.cell (j := 2) rfl
  have HB := hide hB
  clear hB
  go_enter Tryz.func30, Tryz.ntmps30
  go_wp2_with fail
  refine (sMade_any HB.out).mono ?_
  rintro e w1 ⟨rfl, hw⟩; subst hw
  go_wp2
  go_ret
  exact ⟨rfl, rfl⟩
set_option maxRecDepth 100000 in
theorem sAsked_any (ch : ByteArray → List Ver) (hB : Blk w D 65 (SB M vk last floor)) (n : Int) : Calls Tryz.prog 77 #[.pointer (some ⟨D, 0, none⟩), .int .i64 n] w fun e w' => e = .returned (.int .i64 (smayP ⟨ch, last, floor⟩ n)) ∧ w' = w := by
  have c2 := hB.cell (j := 2) rfl
  have c3 := hB.cell (j := 3) rfl
  have HB := hide hB
  clear hB
  obtain ⟨q, HQ⟩ : ∃ q, Hid (smayP ⟨ch, last, floor⟩ n = q) := ⟨_, rfl⟩
  rw [HQ.out]
  go_enter Tryz.func77, Tryz.ntmps77
  go_wp2_with fail
  refine (sMade_any HB.out).mono ?_
  rintro e w1 ⟨rfl, hw⟩; subst hw
  by_cases h1 : n < floor
  · have q1 : decide (n < floor) = true := by simp [h1]
    go_wp2
    go_ret
    refine ⟨?_, rfl⟩
    rw [← HQ.out, smayP, if_pos h1]
    rfl
  · have q1 : decide (n < floor) = false := by simp; omega
    by_cases h2 : last < n
    · have q2 : decide (last < n) = true := by simp [h2]
      go_wp2
      go_ret
      refine ⟨?_, rfl⟩
      rw [← HQ.out, smayP, if_neg (by simpa using h1), if_pos h2]
      rfl
    · have q2 : decide (last < n) = false := by simp; omega
      go_wp2
      go_ret
      refine ⟨?_, rfl⟩
      rw [← HQ.out, smayP, if_neg (by simpa using h1), if_neg (by simpa using h2)]
      rfl
end
set_option maxRecDepth 100000 in
theorem sNew_any (w : World) : Calls Tryz.prog 8 #[] w fun e w' => ∃ D M, e = .returned (.pointer (some ⟨D, 0, none⟩)) ∧ StAt w' D M (.slice none 0 0) [] sp0 ∧ w.heap.size ≤ D ∧ w.heap.size ≤ M ∧ Below w.heap.size w w' := by
  have hmm := @run_makeMap Tryz.prog
  have hmp := MapC_made w
  have HM := hide hmp
  clear hmp
  have hb : Below w.heap.size w (w.alloc (.map #[] 0)) := (Below.refl _ _).alloc (Nat.le_refl _) _
  have HB := hide hb
  clear hb
  go_enter Tryz.func8, Tryz.ntmps8
  go_wp2
  go_ret
  refine ⟨_, w.heap.size, rfl, ⟨by have := Blk.new (w.alloc (.map #[] 0)) 65 (SB w.heap.size (.slice none 0 0) 0 0); rw [World.size_alloc] at this; exact this, ?_, ownG_nil _ _ _, inv0, by simp⟩, by simp, Nat.le_refl _, ?_⟩
  · exact HM.out.kept ((Below.refl _ _).alloc (Nat.le_refl _) _)
  · exact HB.out.alloc HB.out.size _
end Go.Proofs.YtcicekggeampcaaGreat

/-
  store's mayFollow and Good: what the calls do.
-/
namespace Go.Proofs.YtcicekggeampcaaGreat
open Go.RowKit
set_option maxRecDepth 100000 in
set_option maxHeartbeats 1000000 in
theorem sFollow_any (p : Pr) (last : ByteArray) (w : World) : Calls Tryz.prog 88 #[.agg (PC p).toArray, .string last] w fun e w' => e = .returned (.bool (pOk p last)) ∧ Below w.heap.size w w' := by
  have hb : Below w.heap.size w (w.alloc (.cells (PC p).toArray 51 (0, 0))) := (Below.refl _ _).alloc (Nat.le_refl _) _
  obtain ⟨k, v, d⟩ := p
  have HB := hide hb
  clear hb
  have hgt := sgt
  obtain ⟨q, HQ⟩ : ∃ q, Hid (pOk (k, v, d) last = q) := ⟨_, rfl⟩
  rw [HQ.out]
  obtain ⟨m, hm⟩ : ∃ m, lt last k = m := ⟨_, rfl⟩
  simp only [PC] at *
  cases m with
  | false =>
    go_enter Tryz.func88, Tryz.ntmps88
    go_wp2
    go_ret
    refine ⟨?_, HB.out⟩
    rw [← HQ.out]
    unfold pOk
    rw [hm]
    rfl
  | true =>
    by_cases h1 : k.size ≤ 64
    · have q1 : decide ((k.size : Int) ≤ 64) = true := by simp; omega
      by_cases h2 : v.size ≤ 256
      · have q2 : decide ((v.size : Int) ≤ 256) = true := by simp; omega
        cases d <;> go_enter Tryz.func88, Tryz.ntmps88 <;> go_wp2 <;> go_ret <;> (refine ⟨?_, HB.out⟩; rw [← HQ.out]; simp [pOk, hm, h1, h2])
      · have q2 : decide ((v.size : Int) ≤ 256) = false := by simp; omega
        go_enter Tryz.func88, Tryz.ntmps88
        go_wp2
        go_ret
        refine ⟨?_, HB.out⟩
        rw [← HQ.out]
        have h3 : decide (v.size ≤ 256) = false := by simpa using h2
        unfold pOk
        simp only [hm, h3, Bool.and_false, Bool.false_and]
        rfl
    · have q1 : decide ((k.size : Int) ≤ 64) = false := by simp; omega
      go_enter Tryz.func88, Tryz.ntmps88
      go_wp2
      go_ret
      refine ⟨?_, HB.out⟩
      rw [← HQ.out]
      have h3 : decide (k.size ≤ 64) = false := by simpa using h1
      unfold pOk
      simp only [hm, h3, Bool.and_false, Bool.false_and]
      rfl
set_option maxHeartbeats 1000000 in
set_option maxRecDepth 100000 in
theorem sGood_any {w : World} {v : Value} {L : List Pr} (h : RdG PE w v L) : Calls Tryz.prog 60 #[v] w fun e w' => e = .returned (.bool (goodP em L)) ∧ Below w.heap.size w w' := by
  have HL := hide h
  obtain ⟨a, cp, rfl⟩ := h.slice
  have hn : L.length ≤ 9223372036854775807 := Nat.le_trans h.cap h.max
  clear h
  have hz := Zpair
  obtain ⟨n, HN⟩ : ∃ n, Hid (L.length = n) := ⟨_, rfl⟩
  rw [HN.out] at HL hn ⊢
  go_enter Tryz.func60, Tryz.ntmps60
  go_wp2_with fail
  go_loopg [3, 8] n (fun g y x wr => ∃ (i : Nat) (last : ByteArray), g + i = n ∧ y = .string last ∧ x = .int .i64 (i : Int) ∧ Hid (goodP last (L.drop i) = goodP em L) ∧ Hid (Below w.heap.size w wr))
  case atStart => exact ⟨0, em, by omega, rfl, rfl, rfl, Below.refl _ _⟩
  case round =>
    obtain ⟨i, last, hgi, rfl, rfl, HG, LR⟩ := hrel
    by_cases hlt : i < n
    · have q2 : (i : Int) < (n : Int) := by omega
      obtain ⟨b, off, rfl, hlb4, hx⟩ := (HL.out.kept LR.out).nth (by omega)
      have hlt' : i < L.length := by rw [HN.out]; exact hlt
      have hr : wr.rangeAt b (off + i * 3) (PC L[i]) := hx i hlt'
      obtain ⟨p, HPp⟩ : ∃ p, Hid (L[i] = p) := ⟨L[i], (show L[i] = L[i] from rfl)⟩
      rw [HPp.out] at hr
      clear hx hlb4
      go_upto_region 5 with (first
        | (refine wpList_load_mid rfl 51 _ rfl b (off + i * 3) rfl (PC p) _ hr Tryz.underlying51 rfl Tryz.size51 ?_)
        | (refine wpList_store_new rfl 51 _ _ rfl wr _ (PC p).toArray _ rfl rfl rfl Tryz.size51 rfl (all_one (PC_one p)) ?_)
        | fail)
      obtain ⟨E, HE⟩ : ∃ E, Hid (wr.heap.size = E) := ⟨_, rfl⟩
      rw [HE.out]
      obtain ⟨w4, hw4⟩ : ∃ x, x = wr.alloc (.cells (PC p).toArray 51 (0, 0)) := ⟨_, rfl⟩
      rw [← hw4]
      have G4 : Hid (Below wr.heap.size wr w4) := (show Below _ _ _ by rw [hw4]; exact (Below.refl _ _).alloc (Nat.le_refl _) _)
      have L4 : Hid (Below w.heap.size w w4) := LR.out.trans (G4.out.mono LR.out.size)
      have B4 : Hid (Blk w4 E 51 (PC p)) := (show Blk _ _ _ _ by rw [hw4, ← HE.out]; exact Blk.new wr 51 (PC p))
      clear hw4 hr
      have HG2 : Hid ((pOk p last && goodP p.1 (L.drop (i + 1))) = goodP em L) := (show _ = _ by rw [← HG.out, List.drop_eq_getElem_cons hlt', HPp.out, goodP])
      have B4r := B4.out.range0
      go_wp2_with (refine wpList_load_mid rfl 51 _ rfl E 0 rfl (PC p) _ B4r Tryz.underlying51 rfl Tryz.size51 ?_)
      refine (sFollow_any p last w4).mono ?_
      rintro e w5 ⟨rfl, hb5⟩
      have L5 : Hid (Below w.heap.size w w5) := L4.out.trans (hb5.mono L4.out.size)
      have c0 := (B4.out.kept hb5).cell (j := 0) rfl
      clear hb5 B4r B4
      obtain ⟨q, HQ⟩ : ∃ q, Hid (pOk p last = q) := ⟨_, rfl⟩
      rw [HQ.out] at HG2 ⊢
      cases q with
      | false =>
        go_wp2_with fail
        go_ret
        exact ⟨by rw [← HG2.out]; rfl, L5.out⟩
      | true =>
        go_wp2_with fail
        go_roundg (gk - 1)
        case measure => omega
        case rel => exact ⟨i + 1, p.1, by omega, rfl, by go_num, (show _ = _ by rw [← HG2.out]; rfl), L5⟩
    · obtain rfl : i = n := by omega
      have q2 : ¬ (i : Int) < (i : Int) := by omega
      have HF : Hid (goodP em L = true) := (show _ = _ by rw [← HG.out, List.drop_of_length_le (by rw [HN.out]; exact Nat.le_refl _)]; rfl)
      go_wp2_with fail
      go_ret
      exact ⟨by rw [HF.out]; rfl, LR.out⟩
end Go.Proofs.YtcicekggeampcaaGreat

/-
  slices.BinarySearch over keys in order: what the call does.
-/
namespace Go.Proofs.YtcicekggeampcaaGreat
open Go.RowKit
set_option maxRecDepth 100000 in
theorem snan_any (a : ByteArray) (w : World) : Calls Tryz.prog 109 #[.string a] w fun e w' => e = .returned (.bool false) ∧ w' = w := by
  go_enter Tryz.func109, Tryz.ntmps109
  go_wp2
  go_ret
  exact ⟨rfl, rfl⟩
set_option maxRecDepth 100000 in
theorem cnan_any (a : ByteArray) (w : World) : Calls Tryz.prog 117 #[.string a] w fun e w' => e = .returned (.bool false) ∧ w' = w := by
  go_enter Tryz.func117, Tryz.ntmps117
  go_wp2
  go_ret
  exact ⟨rfl, rfl⟩
set_option maxRecDepth 100000 in
theorem less_any (a b : ByteArray) (w : World) : Calls Tryz.prog 108 #[.string a, .string b] w fun e w' => e = .returned (.bool (lt a b)) ∧ w' = w := by
  have hl := slt
  go_enter Tryz.func108, Tryz.ntmps108
  go_wp2_with fail
  refine (cnan_any a w).mono ?_
  rintro e w1 ⟨rfl, hw⟩; subst hw
  go_wp2_with fail
  go_ret
  exact ⟨rfl, rfl⟩
set_option maxHeartbeats 2000000 in
set_option maxRecDepth 100000 in
theorem bsearch_any {w : World} {v : Value} {ks : List ByteArray} (h : RdG KE w v ks) (hs : Srt ks) (hn : ks.length ≤ 4398046511104) (t : ByteArray) :
    Calls Tryz.prog 94 #[v, .string t] w fun e w' => e = .returned (.tuple #[.int .i64 (lb ks t : Int), .bool (sfnd ks t)]) ∧ w' = w := by
  have HL := hide h
  obtain ⟨a, cp, rfl⟩ := h.slice
  have hln := hide (show ks.length = ks.length from rfl)
  have HS := hide hs
  clear h hs
  obtain ⟨n, HN⟩ : ∃ n, Hid (ks.length = n) := ⟨_, rfl⟩
  rw [HN.out] at HL hn ⊢
  obtain ⟨u, HU⟩ : ∃ u, Hid (lb ks t = u) := ⟨_, rfl⟩
  have HUn : Hid (u ≤ n) := (show _ by rw [← HU.out, ← HN.out]; exact lb_le _ _)
  have HF : Hid (sfnd ks t = (ks[u]?).any fun k => k.toList == t.toList) := (show _ = _ by unfold sfnd; rw [HU.out])
  rw [HU.out]
  obtain ⟨fd, HFd⟩ : ∃ x, Hid (sfnd ks t = x) := ⟨_, rfl⟩
  rw [HFd.out] at HF ⊢
  clear HFd hln
  go_enter Tryz.func94, Tryz.ntmps94
  go_wp2_with fail
  go_loopg [7, 8] n (fun g x y wr => ∃ lo hi : Nat, x = .int .i64 (lo : Int) ∧ y = .int .i64 (hi : Int) ∧ hi ≤ n ∧ hi - lo ≤ g ∧ Hid (lo ≤ u ∧ u ≤ hi) ∧ Hid (wr = w))
  case atStart => exact ⟨0, n, rfl, rfl, Nat.le_refl _, by omega, ⟨Nat.zero_le _, HUn.out⟩, rfl⟩
  case round =>
    obtain ⟨lo, hi, rfl, rfl, hin, hg, HI, HW⟩ := hrel
    obtain rfl : wr = w := HW.out
    by_cases hlt : lo < hi
    · have q1 : (lo : Int) < (hi : Int) := by omega
      obtain ⟨m, HM⟩ : ∃ m, Hid ((lo + hi) / 2 = m) := ⟨_, rfl⟩
      have hm1 : lo ≤ m ∧ m < hi := by have := HM.out; omega
      have em : ((lo : Int) + (hi : Int)) / 2 = (m : Int) := by have := HM.out; omega
      obtain ⟨b, off, rfl, hlb, hx⟩ := HL.out.nth (by omega)
      have hmk : m < ks.length := by rw [HN.out]; omega
      have c0 : wr.cell? ⟨b, off + m, none⟩ = some (.string ks[m]) := by
        have := hx m hmk 0 _ rfl
        simpa [KE] using this
      have hat := hide (lb_at HS.out (t := t) hmk)
      rw [HU.out] at hat
      generalize ks[m] = km at c0 hat
      have hmn : (m : Int) < (n : Int) := by omega
      clear hx
      go_wp2_with fail
      refine (less_any km t wr).mono ?_
      rintro e w5 ⟨rfl, hw⟩; subst hw
      rw [hat.out]
      by_cases hum : m < u
      · rw [decide_eq_true hum]
        have I2 : Hid (m + 1 ≤ u ∧ u ≤ hi) := ⟨by omega, HI.out.2⟩
        go_wp2_with fail
        go_roundg (hi - (m + 1))
        case measure => omega
        case rel => exact ⟨m + 1, hi, by go_num, rfl, by omega, Nat.le_refl _, I2, rfl⟩
      · rw [decide_eq_false hum]
        have I2 : Hid (lo ≤ u ∧ u ≤ m) := ⟨HI.out.1, by omega⟩
        go_wp2_with fail
        go_roundg (m - lo)
        case measure => omega
        case rel => exact ⟨lo, m, rfl, rfl, by omega, Nat.le_refl _, I2, rfl⟩
    · obtain rfl : hi = lo := by have := HI.out; omega
      have q1 : ¬ (hi : Int) < (hi : Int) := by omega
      obtain rfl : hi = u := by have := HI.out; omega
      clear HI
      by_cases hun : hi < n
      · have q3 : (hi : Int) < (n : Int) := by omega
        obtain ⟨b, off, rfl, hlb, hx⟩ := HL.out.nth (by omega)
        have hmk : hi < ks.length := by rw [HN.out]; exact hun
        have c0 : wr.cell? ⟨b, off + hi, none⟩ = some (.string ks[hi]) := by
          have := hx hi hmk 0 _ rfl
          simpa [KE] using this
        rw [List.getElem?_eq_getElem hmk, Option.any_some] at HF
        generalize ks[hi] = km at c0 HF
        clear hx
        obtain ⟨q, hq⟩ : ∃ q, (km.toList == t.toList) = q := ⟨_, rfl⟩
        rw [hq] at HF
        obtain rfl : fd = q := HF.out
        cases fd with
        | true =>
          go_wp2_with fail
          go_ret2
          exact ⟨rfl, rfl⟩
        | false =>
          go_wp2_with fail
          refine (snan_any km wr).mono ?_
          rintro e w6 ⟨rfl, hw⟩; subst hw
          go_wp2_with fail
          go_ret2
          exact ⟨rfl, rfl⟩
      · have q3 : ¬ (hi : Int) < (n : Int) := by omega
        rw [List.getElem?_eq_none (by rw [HN.out]; omega)] at HF
        obtain rfl : fd = false := HF.out
        go_wp2_with fail
        go_ret2
        exact ⟨rfl, rfl⟩
end Go.Proofs.YtcicekggeampcaaGreat

/-
  A range over a function whose rounds may leave it, where what is handed to a round is known in the world of that round: one law.
-/
namespace Go.Proofs.YtcicekggeampcaaGreat
open Go.RowKit

/-- How a round is left: what is no cells and lies from B on is as it was, only blocks of G have turned, and I holds, or Ix of the jump. -/
def roundEnds (B : Nat) (G : Nat → Prop) (I : World → Prop) (Ix : Code → World → Prop) (W : World) : Exit → Act → World → Prop
  | .normal, _, W' => KeepsFrom B W W' ∧ Chg G W W' ∧ I W'
  | .exit id, _, W' => KeepsFrom B W W' ∧ Chg G W W' ∧ Ix (.exit id) W'
  | .ret, _, W' => KeepsFrom B W W' ∧ Chg G W W' ∧ Ix .ret W'
  | _, _, _ => False

/-- What a function that is ranged over does with whatever rounds it is handed. -/
def Hands2 {α : Type} (P : Program) (n gf : Nat) (lb : Array Value) (encs : α → Array Value) (R : List α → α → World → Prop) (S : List α → Prop) (G : Nat → Prop) (w : World) : Prop :=
  ∀ (l : Nat) (J Jx : List α → World → Prop) (W : World), Below w.heap.size w W → (∀ pre X Y, J pre X → Below X.heap.size X Y → J pre Y) → (∀ pre X Y, Jx pre X → Below X.heap.size X Y → Jx pre Y) → J [] W →
    (∀ pre x X, J pre X → R pre x X → YieldAt Fence.wide (n - 1) P l (encs x) X fun e Y => Chg G X Y ∧ ((e = .returned (.bool true) ∧ J (pre ++ [x]) Y) ∨ (e = .returned (.bool false) ∧ Jx (pre ++ [x]) Y))) →
    CallsIn Fence.wide n P gf (#[.func (.yield l) #[] #[]] ++ lb) W fun e Y => (∃ v, e = .returned v) ∧ ((∃ xs, S xs ∧ J xs Y) ∨ ∃ xs, Jx xs Y)

theorem wp_ranged2 {α : Type} {P : Program} {n gf : Nat} {lb : Array Value} {g : Operand} {ps : Array Tmp} {assign body : Code} {Q : Exit → Act → World → Prop} {a : Act} {w : World}
    (hg : a.eval g = .func (.func gf) #[] lb) (eg : ∀ args w, (callFunc gf args).run P w = .ok (.enter gf args) w)
    {encs : α → Array Value} (hps : ∀ x, (encs x).size = ps.size) {R : List α → α → World → Prop} {S : List α → Prop} (I : List α → World → Prop) (Ix : Code → List α → World → Prop)
    (hIp : ∀ pre W l r o, w.heap.size ≤ l → W.heap[l]? = some (.loop r) → I pre W → I pre (W.putObj l o))
    (hXp : ∀ c pre W l r o, w.heap.size ≤ l → W.heap[l]? = some (.loop r) → Ix c pre W → Ix c pre (W.putObj l o))
    (hIb : ∀ pre X Y, I pre X → Below X.heap.size X Y → I pre Y)
    (hXb : ∀ c pre X Y, Ix c pre X → Below X.heap.size X Y → Ix c pre Y)
    (hRp : ∀ pre x W l r o, w.heap.size ≤ l → W.heap[l]? = some (.loop r) → R pre x W → R pre x (W.putObj l o))
    (h0 : I [] w) {G : Nat → Prop} (hG : ∀ k, w.heap.size ≤ k → G k) (hH : Hands2 P (n - 1) gf lb encs R S G w) (a1 : α → Act)
    (hassign : ∀ (l : Nat) (x : α) (W : World) (K : Act → World → Prop), K (a1 x) W →
      assign.wpIn (Fence.wide.inRound l) (n - 1 - 1) P (Exit.then K (fun _ _ _ => False)) { tmps := (ps.zip (encs x)).foldl (fun t (p, v) => t.setIfInBounds p v) a.tmps, defers := [] } W)
    (hbody : ∀ (l : Nat) (pre : List α) (x : α) (W : World), w.heap.size ≤ W.heap.size → I pre W → R pre x W → body.wpIn (Fence.wide.inRound l) (n - 1 - 1) P (roundEnds w.heap.size G (I (pre ++ [x])) (fun c => Ix c (pre ++ [x])) W) (a1 x) W)
    (hdone : ∀ (D : Nat) (xs : List α) (W : World), w.heap.size ≤ D → S xs → I xs W → W.heap[D]? = some (.deferred (some [])) → Q .normal { a with defers := { target := .collected D, args := #[] } :: a.defers } W)
    (hleft : ∀ (D : Nat) (c : Code) (xs : List α) (W : World), w.heap.size ≤ D → Ix c xs W → W.heap[D]? = some (.deferred (some [])) → c.wpIn Fence.wide n P Q { a with defers := { target := .collected D, args := #[] } :: a.defers } W) :
    (Code.rangeFunc g ps assign body).wpIn Fence.wide n P Q a w := by
  refine wpIn_rangeFunc fun fn hfn => ?_
  obtain ⟨mk, hmk⟩ : ∃ mk : LoopState → Option Code → Loop, mk = fun s c => { state := s, pending := c, fn := fn, tmps := a.tmps, params := ps, assign := assign, body := body, defers := w.heap.size } := ⟨_, rfl⟩
  obtain ⟨V, hV⟩ : ∃ V, V = (w.alloc (.deferred (some []))).alloc (.loop (mk .ready none)) := ⟨_, rfl⟩
  have hVl : V.heap[w.heap.size + 1]? = some (.loop (mk .ready none)) := by
    have := World.alloc_heap_new (w.alloc (.deferred (some []))) (.loop (mk .ready none))
    rw [World.size_alloc] at this
    rw [hV]; exact this
  have hVd : V.heap[w.heap.size]? = some (.deferred (some [])) := by
    rw [hV, Below.heap_alloc _ _ _ (by simp)]
    exact World.alloc_heap_new w _
  have hVb : Below w.heap.size w V := by
    rw [hV]; exact ((Below.refl _ w).alloc (Nat.le_refl _) _).alloc (by simp) _
  have hin : (Instr.enterLoop fn a.tmps ps assign body Fence.wide.round).run P w = .ok (w.heap.size + 1, [{ target := .collected w.heap.size, args := #[] }]) V := by
    rw [hV, hmk]; exact run_enterLoop_outer fn a.tmps ps assign body
  refine ⟨_, _, V, { target := .fn (.func gf) lb, args := #[.func (.yield (w.heap.size + 1)) #[] #[]] }, V, gf, #[.func (.yield (w.heap.size + 1)) #[] #[]] ++ lb, V, hin, ?_, fun _ _ => trivial, ?_, fun h => by simp [Fence.wide] at h, ?_⟩
  · simp only [resolve, hg]
    simp [go_sem]
  · simp [invoke, go_sem, eg]
  refine (hH (w.heap.size + 1) (fun pre W => I pre W ∧ W.heap[w.heap.size + 1]? = some (.loop (mk .ready none)) ∧ W.heap[w.heap.size]? = some (.deferred (some [])))
    (fun pre W => ∃ c, Ix c pre W ∧ W.heap[w.heap.size + 1]? = some (.loop (mk .done (some c))) ∧ W.heap[w.heap.size]? = some (.deferred (some []))) V hVb ?_ ?_ ⟨hIb _ _ _ h0 hVb, hVl, hVd⟩ ?_).mono ?_
  · rintro pre X Y ⟨h1, h2, h3⟩ hb
    exact ⟨hIb _ _ _ h1 hb, (hb.block _ (Array.getElem?_eq_some_iff.1 h2).1).trans h2, (hb.block _ (Array.getElem?_eq_some_iff.1 h3).1).trans h3⟩
  · rintro pre X Y ⟨c, h1, h2, h3⟩ hb
    exact ⟨c, hXb _ _ _ _ h1 hb, (hb.block _ (Array.getElem?_eq_some_iff.1 h2).1).trans h2, (hb.block _ (Array.getElem?_eq_some_iff.1 h3).1).trans h3⟩
  · rintro pre x X ⟨h1, h2, h3⟩ hR
    have hlt : w.heap.size + 1 < X.heap.size := (Array.getElem?_eq_some_iff.1 h2).1
    have hy := run_yield (P := P) (args := encs x) h2 (by rw [hmk]; exact hps x)
    rw [hmk] at hy
    refine ⟨fn, _, assign, body, hy, roundIn_of_wpIn hfn (hassign _ x X _ ?_)⟩
    refine ⟨_, run_beginRound h2 (by rw [hmk]), ?_⟩
    obtain ⟨X1, hX1⟩ : ∃ X1, X1 = X.putObj (w.heap.size + 1) (.loop { mk .ready none with state := .busy }) := ⟨_, rfl⟩
    rw [← hX1]
    have g2 : X1.heap[w.heap.size + 1]? = some (.loop (mk .busy none)) := by rw [hX1, hmk]; exact World.putObj_heap_same hlt
    have g3 : X1.heap[w.heap.size]? = some (.deferred (some [])) := by rw [hX1]; exact (World.putObj_heap_other (by omega)).trans h3
    have gb : Chg G X X1 := by rw [hX1]; exact chg_put (hG _ (by omega)) _
    refine wpIn_mono (hbody _ pre x X1 (by have := gb.size; omega) (by rw [hX1]; exact hIp _ _ _ _ _ (by omega) h2 h1) (by rw [hX1]; exact hRp _ _ _ _ _ _ (by omega) h2 hR)) ?_
    rintro e a2 X2 hp
    cases e with
    | normal =>
      obtain ⟨k1, k2, k3⟩ := hp
      have q2 := k1.same _ _ (by omega) g2 rfl
      have q3 := k1.same _ _ (Nat.le_refl _) g3 rfl
      have hl2 : w.heap.size + 1 < X2.heap.size := (Array.getElem?_eq_some_iff.1 q2).1
      refine ⟨_, _, run_endRound none q2, (gb.trans k2).trans (chg_put (hG _ (by omega)) _), .inl ⟨rfl, hIp _ _ _ _ _ (by omega) q2 k3, ?_, ?_⟩⟩
      · rw [hmk]; exact World.putObj_heap_same hl2
      · exact (World.putObj_heap_other (by omega)).trans q3
    | exit id =>
      obtain ⟨k1, k2, k3⟩ := hp
      have q2 := k1.same _ _ (by omega) g2 rfl
      have q3 := k1.same _ _ (Nat.le_refl _) g3 rfl
      have hl2 : w.heap.size + 1 < X2.heap.size := (Array.getElem?_eq_some_iff.1 q2).1
      refine ⟨_, _, run_endRound (some (.exit id)) q2, (gb.trans k2).trans (chg_put (hG _ (by omega)) _), .inr ⟨rfl, .exit id, hXp _ _ _ _ _ _ (by omega) q2 k3, ?_, ?_⟩⟩
      · rw [hmk]; exact World.putObj_heap_same hl2
      · exact (World.putObj_heap_other (by omega)).trans q3
    | goto t => exact hp.elim
    | ret =>
      obtain ⟨k1, k2, k3⟩ := hp
      have q2 := k1.same _ _ (by omega) g2 rfl
      have q3 := k1.same _ _ (Nat.le_refl _) g3 rfl
      have hl2 : w.heap.size + 1 < X2.heap.size := (Array.getElem?_eq_some_iff.1 q2).1
      refine ⟨_, _, run_endRound (some .ret) q2, (gb.trans k2).trans (chg_put (hG _ (by omega)) _), .inr ⟨rfl, .ret, hXp _ _ _ _ _ _ (by omega) q2 k3, ?_, ?_⟩⟩
      · rw [hmk]; exact World.putObj_heap_same hl2
      · exact (World.putObj_heap_other (by omega)).trans q3
    | panic c => exact hp.elim
    | outgrown => exact hp.elim
  · rintro e Y ⟨⟨v, rfl⟩, ⟨xs, hS, h1, h2, h3⟩ | ⟨xs, c, h1, h2, h3⟩⟩
    · have hend := run_endLoop (P := P) h2 (by rw [hmk]; simp)
      have hpn : (mk .ready none).pending = none := by rw [hmk]
      rw [hpn] at hend
      exact ⟨none, _, hend, hdone _ xs _ (Nat.le_refl _) hS (hIp _ _ _ _ _ (by omega) h2 h1) ((World.putObj_heap_other (by omega)).trans h3)⟩
    · have hend := run_endLoop (P := P) h2 (by rw [hmk]; simp)
      have hpn : (mk .done (some c)).pending = some c := by rw [hmk]
      rw [hpn] at hend
      exact ⟨some c, _, hend, hleft _ c xs _ (Nat.le_refl _) (hXp _ _ _ _ _ _ (by omega) h2 h1) ((World.putObj_heap_other (by omega)).trans h3)⟩
end Go.Proofs.YtcicekggeampcaaGreat

/-
  slices.Backward's function: what is handed to whatever loop goes over it.
-/
namespace Go.Proofs.YtcicekggeampcaaGreat
open Go.RowKit Go.Shelf
attribute [local go_sem] Oper.semAt_some
def bwV (x : Nat × ByteArray) : Array Value := #[.int .i64 (x.1 : Int), .string x.2]
def bwR (F : List ByteArray) (pre : List (Nat × ByteArray)) (x : Nat × ByteArray) (_ : World) : Prop := pre.length + x.1 + 1 = F.length ∧ F[x.1]? = some x.2
set_option maxRecDepth 100000 in
set_option maxHeartbeats 4000000 in
theorem backward1_hands (n Bx : Nat) (a : Option Addr) (cap : Nat) (F : List ByteArray) (w : World) (hbox : w.cell? ⟨Bx, 0, none⟩ = some (.slice a F.length cap)) (hBx : Bx < w.heap.size) (hr : RdG KE w (.slice a F.length cap) F) (hl : F.length ≤ 140737488300000)
    {G : Nat → Prop} (hGb : ¬ G Bx) (hGr : ∀ b, InB (.slice a F.length cap) b → ¬ G b) :
    Hands2 Tryz.prog n 107 #[.pointer (some ⟨Bx, 0, none⟩)] bwV (bwR F) (fun xs => xs.length = F.length) G w := by
  intro l J Jx W hW hJ hJx h0 hY
  obtain ⟨m, HM⟩ : ∃ m, Hid (F.length = m) := ⟨_, rfl⟩
  have HR := hide hr
  have HG := hide hGr
  clear hr hGr
  rw [HM.out] at hbox HR HG hl ⊢
  have HY := hide hY
  have HJ := hide hJ
  have HJX := hide hJx
  have H0 := hide h0
  have HBX := hide hbox
  have hcW : W.cell? ⟨Bx, 0, none⟩ = some (.slice a m cap) := (hW.cell (p := ⟨Bx, 0, none⟩) hBx).trans hbox
  clear hY hJ hJx h0 hbox
  refine callsIn_of_wp Tryz.func107 rfl trivial ?_ rfl
  simp only [Tryz.ntmps107, List.size_toArray, List.length_cons, List.length_nil, Nat.reduceAdd, Nat.reduceSub, Array.replicate_succ, Array.replicate_zero, List.push_toArray, List.append_toArray, List.nil_append, List.cons_append]
  gi_wp2
  gi_loopw [3] (fun p wr => ∃ (pre : List (Nat × ByteArray)) (r : Nat), p = .int .i64 ((r : Int) - 1) ∧ Hid (J pre wr) ∧ Hid (Chg G w wr) ∧ Hid (pre.length + r = m)) (fun p _ => (intOf p + 1).toNat)
  case atStart => exact ⟨[], m, rfl, H0, Chg.of_below hW, (show _ = _ by simp)⟩
  case round =>
    obtain ⟨pre, r, rfl, HP, HC, HL⟩ := hrel
    have hc0 : wr.cell? ⟨Bx, 0, none⟩ = some (.slice a m cap) := (HC.out.cellAt hBx hGb).trans HBX.out
    cases r with
    | zero =>
      have q1 : ¬ (0 : Int) ≤ ((0 : Nat) : Int) - 1 := by omega
      gi_wp2_with fail
      refine bodyPost_end (results_none rfl _ _ _) rfl ?_
      exact ⟨⟨_, rfl⟩, .inl ⟨pre, by have := HL.out; omega, HP.out⟩⟩
    | succ r =>
      have q1 : (0 : Int) ≤ (((r + 1 : Nat) : Int)) - 1 := by omega
      have er : (((r + 1 : Nat) : Int)) - 1 = (r : Int) := by omega
      rw [er] at q1 ⊢
      have hrm : r < m := by have := HL.out; omega
      obtain ⟨b, off, ha, hlb, hx⟩ := (HR.out.chg HC.out HG.out).nth (by omega)
      have hmk : r < F.length := by rw [HM.out]; exact hrm
      have c0 : wr.cell? ⟨b, off + r, none⟩ = some (.string F[r]) := by
        have := hx r hmk 0 _ rfl
        simpa [KE] using this
      have HX : Hid (F[r]? = some F[r]) := List.getElem?_eq_getElem hmk
      generalize F[r] = km at c0 HX
      have hmn : (r : Int) < (m : Int) := by omega
      subst ha
      clear hx
      obtain ⟨fn, tmps, assign, body, hy, hR⟩ := HY.out pre (r, km) wr HP.out ⟨by have := HL.out; rw [HM.out]; omega, HX.out⟩
      simp only [bwV] at hy
      have HRR := hide hR
      clear hR
      gi_wp2_with fail
      refine ⟨fun h => by simp [Fence.wide] at h, HRR.out.mono ?_⟩
      rintro e w3 ⟨hc3, ⟨rfl, hj⟩ | ⟨rfl, hj⟩⟩
      · gi_wp2_with fail
        go_roundw
        case rel => exact ⟨pre ++ [(r, km)], r, by go_num, hj, HC.out.trans hc3, (show _ = _ by have := HL.out; rw [List.length_append, List.length_singleton]; omega)⟩
        case measure => simp only [intOf]; omega
      · gi_wp2_with fail
        refine bodyPost_ret (results_none rfl _ _ _) rfl ?_
        exact ⟨⟨_, rfl⟩, .inr ⟨_, hj⟩⟩
end Go.Proofs.YtcicekggeampcaaGreat

/-
  Regions that draw their order inside a round of a range over a function.
-/
namespace Go.Proofs.YtcicekggeampcaaGreat
open Go.RowKit Go.Shelf
end Go.Proofs.YtcicekggeampcaaGreat
