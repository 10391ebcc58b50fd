/-
  The document's session in memory.
-/
import Derived.Test.YtcicekggeampcaaGreatGE3
import Derived.Test.YtcicekggeampcaaGreatGRc
import Derived.Test.YtcicekggeampcaaGreatGBe
import Derived.Test.YtcicekggeampcaaGreatGCt
namespace Go.Proofs.YtcicekggeampcaaGreat
open Go.RowKit
/-- Where the document's session lies: its buffer, that one's row, the row of its reads. -/
structure Yb where
  B : Nat
  vb : Value
  a : Option Addr
  c : Nat
  Q : List Rz
abbrev Yb.v (b : Yb) : Value := .slice b.a b.Q.length b.c
def YC (id : Int) : Option (Yb × Tx) → List Value
  | none => [.int .i64 id, .bool false, .int .i64 0, .bool false, .int .i64 0, .slice none 0 0, .pointer none]
  | some (b, t) => [.int .i64 id, .bool true, .int .i64 t.snap, .bool t.st, .int .i64 t.ops, b.v, PT b.B]
theorem YC_one (id : Int) (y : Option (Yb × Tx)) : ∀ u ∈ YC id y, u.oneCell' = true := by
  intro u hu
  cases y with
  | none => simp only [YC, List.mem_cons, List.not_mem_nil, or_false] at hu; rcases hu with rfl | rfl | rfl | rfl | rfl | rfl | rfl <;> rfl
  | some z => obtain ⟨b, t⟩ := z; simp only [YC, List.mem_cons, List.not_mem_nil, or_false] at hu; rcases hu with rfl | rfl | rfl | rfl | rfl | rfl | rfl <;> rfl
theorem YC_len (id : Int) (y : Option (Yb × Tx)) : (YC id y).length = 7 := by
  cases y with
  | none => rfl
  | some z => rfl
/-- Its transaction: each of its reads, however often; those that are its own are what t read. -/
structure YTx (w : World) (B : Nat) (b : Yb) (t : Tx) : Prop where
  row : OwnG XE w B 58 b.v b.Q
  ps : ∀ y ∈ b.Q, OwnG PE w B 51 (xv y) y.ps
  pl : (ownP b.Q).map plR = t.R
  buf : RBf w b.B b.vb t.W
  lo : B ≤ b.B
  len : b.Q.length ≤ t.ops
  ops : t.ops ≤ 64
structure YAt (w : World) (B Y : Nat) (id : Int) (y : Option (Yb × Tx)) : Prop where
  x : Blk w Y 47 (YC id y)
  lo : B ≤ Y
  tx : ∀ b t, y = some (b, t) → YTx w B b t
/-- The blocks that its acts may change. -/
def YG (Y : Nat) : Option (Yb × Tx) → Nat → Prop
  | none, k => k = Y
  | some (b, _), k => k = Y ∨ k = b.B ∨ b.v.ownBlock = some k
/-- No block of that type is one of F. -/
def NoT (T : TypeId) (w : World) (F : Nat → Prop) : Prop := ∀ b cur, w.heap[b]? = some (.cells cur T (0, 0)) → ¬ F b
theorem YTx.chg {w w' : World} {B : Nat} {b : Yb} {t : Tx} (h : YTx w B b t) {F : Nat → Prop} (hc : Chg F w w') (hB : ¬ F b.B) (hv : ∀ k, b.v.ownBlock = some k → ¬ F k) (hP : NoT 51 w F) : YTx w' B b t :=
  ⟨h.row.chg hc hv, fun y hy => (h.ps y hy).chg hc (fun k hk => by obtain ⟨_, _, cur, hcc⟩ := (h.ps y hy).block hk; exact hP k cur hcc), h.pl,
    h.buf.chg hc hB (fun k hk => by obtain ⟨_, _, cur, hcc⟩ := h.buf.own.block hk; exact hP k cur hcc), h.lo, h.len, h.ops⟩
theorem YAt.chg {w w' : World} {B Y : Nat} {id : Int} {y : Option (Yb × Tx)} (h : YAt w B Y id y) {F : Nat → Prop} (hc : Chg F w w') (hF : ∀ k, YG Y y k → ¬ F k) (hP : NoT 51 w F) : YAt w' B Y id y := by
  refine ⟨h.x.chg hc (hF Y ?_), h.lo, fun b t e => ?_⟩
  · cases y with
    | none => rfl
    | some z => exact .inl rfl
  · subst e
    exact (h.tx b t rfl).chg hc (hF _ (.inr (.inl rfl))) (fun k hk => hF k (.inr (.inr hk))) hP
theorem YAt.kept {w w' : World} {B Y : Nat} {id : Int} {y : Option (Yb × Tx)} (h : YAt w B Y id y) (hb : Below w.heap.size w w') : YAt w' B Y id y :=
  h.chg (F := fun _ => False) (Chg.of_below hb) (fun _ _ hf => hf) (fun _ _ _ hf => hf)
theorem YAt.lt {w : World} {B Y : Nat} {id : Int} {y : Option (Yb × Tx)} (h : YAt w B Y id y) {k : Nat} (hk : YG Y y k) : B ≤ k ∧ k < w.heap.size := by
  cases y with
  | none => cases hk; exact ⟨h.lo, h.x.lt⟩
  | some z =>
    obtain ⟨b, t⟩ := z
    rcases hk with rfl | rfl | hk
    · exact ⟨h.lo, h.x.lt⟩
    · exact ⟨(h.tx b t rfl).lo, (h.tx b t rfl).buf.d.lt⟩
    · obtain ⟨h1, h2, -⟩ := (h.tx b t rfl).row.block hk
      exact ⟨h1, h2⟩
theorem YAt.noT {w : World} {B Y : Nat} {id : Int} {y : Option (Yb × Tx)} (h : YAt w B Y id y) {T : TypeId} (h1 : T ≠ 47) (h2 : T ≠ 93) (h3 : T ≠ 58) : NoT T w (YG Y y) := by
  intro k cur hb hk
  cases y with
  | none => cases hk; exact cells_ne hb h.x h1 rfl
  | some z =>
    obtain ⟨b, t⟩ := z
    rcases hk with rfl | rfl | hk
    · exact cells_ne hb h.x h1 rfl
    · exact cells_ne hb (h.tx b t rfl).buf.d h2 rfl
    · obtain ⟨_, _, cur', hc⟩ := (h.tx b t rfl).row.block hk
      exact cells_ne hb hc h3 rfl
theorem SesAt.noT {w : World} {B X : Nat} {id : Int} {o : Option (Tb × Tx)} (h : SesAt w B X id o) {T : TypeId} (h1 : T ≠ 61) (h2 : T ≠ 89) (h3 : T ≠ 58) : NoT T w (SG X o) := by
  intro k cur hb hk
  have hX : k ≠ X := fun e => by rw [e] at hb; exact cells_ne hb h.x h1 rfl
  cases o with
  | none => exact hX hk
  | some z =>
    obtain ⟨b, t⟩ := z
    have ht := h.tx b t rfl
    rcases hk with hk | hk | hk | hk | hk
    · exact hX hk
    · rw [hk] at hb; exact cells_ne hb ht.d h2 rfl
    · rw [hk] at hb; exact cells_map hb ht.set.block rfl
    · rw [hk] at hb; exact cells_map hb ht.buf.mp.block rfl
    · obtain ⟨_, _, cur', hc⟩ := ht.row.block hk
      exact cells_ne hb hc h3 rfl
theorem SesAt.chgT {w w' : World} {B X : Nat} {id : Int} {o : Option (Tb × Tx)} (h : SesAt w B X id o) {F : Nat → Prop} (hc : Chg F w w') (hF : ∀ k, SG X o k → ¬ F k) (hP : NoT 51 w F) (hD : NoT 130 w F) : SesAt w' B X id o := by
  refine h.chg hc (hF X ?_) fun b t e => ?_
  · cases o with
    | none => rfl
    | some z => exact .inl rfl
  · have ht := h.tx b t e
    subst e
    refine ⟨hF _ (.inr (.inl rfl)), hF _ (.inr (.inr (.inl rfl))), hD _ _ ht.buf.d, hF _ (.inr (.inr (.inr (.inl rfl)))), fun k hk => hF _ (.inr (.inr (.inr (.inr hk)))), fun y hy k hk => ?_⟩
    obtain ⟨_, _, cur, hcc⟩ := (ht.ps y hy).block hk
    exact hP _ _ hcc
/-- An act of the document's session: what it tells, how it leaves it. -/
def RefPost (w : World) (B Y : Nat) (id : Int) (b : Yb) (t t' : Tx) (r : Value) (e : Ending) (w' : World) : Prop :=
  e = .returned r ∧ ∃ b', YAt w' B Y id (some (b', t')) ∧ Chg (YG Y (some (b, t))) w w' ∧ ∀ k, YG Y (some (b', t')) k → YG Y (some (b, t)) k ∨ w.heap.size ≤ k
/-- One read more, kept or not. -/
theorem own_read {Q : List Rz} {R : List Rp} (h : (ownP Q).map plR = R) (x : Rz) : (ownP (Q ++ [x])).map plR = if x.sc = true then R ++ [plR x] else if seenK R x.k = true then R else R ++ [plR x] := by
  have e : ownP (Q ++ [x]) = if again (ownP Q) x = true then ownP Q else ownP Q ++ [x] := by
    show ownA [] (Q ++ [x]) = _
    rw [own_app]
    rfl
  have ha : again (ownP Q) x = (!x.sc && seenK R x.k) := by
    rw [← h]
    unfold again seenK
    rw [List.any_map]
    cases x.sc with
    | true => simp
    | false =>
      simp only [Bool.not_false, Bool.true_and]
      congr 1
      funext y
      simp only [Function.comp, plR]
      congr 1
      exact Bool.beq_comm
  rw [e, ha]
  cases hs : x.sc with
  | true => simp [h]
  | false =>
    simp only [Bool.not_false, Bool.true_and, Bool.false_eq_true, if_false]
    split
    · exact h
    · rw [List.map_append, List.map_singleton, h]
end Go.Proofs.YtcicekggeampcaaGreat
