/-
  Both stores beside each other, as laws ask them.
-/
import Derived.Test.YtgaoionnfkbhaaaRfM
namespace Go.Proofs.Ytgaoionnfkbhaaa
open Go.RowKit
theorem vers_le {s : SP} {ks : List ByteArray} {N : Nat} (h : ∀ k, (s.ch k).length ≤ N) : versS s ks ≤ ks.length * N := by
  induction ks with
  | nil => simp [versS]
  | cons x ks ih =>
    rw [versS_cons, List.length_cons, Nat.add_mul]
    have := h x
    omega
theorem vers_bound {s : SP} {ks : List ByteArray} (h : Inv s ks) {i : Nat} (h1 : ks.length ≤ 60 * i) (h2 : s.last ≤ i) (hi : i ≤ 1000) : versS s ks ≤ 1000000000 := by
  have h3 := vers_le (s := s) (ks := ks) (N := 1000) (fun k => by have := h.len k; omega)
  have h4 : ks.length * 1000 ≤ 60000 * 1000 := Nat.mul_le_mul_right _ (by omega)
  omega
/-- What does not hang on the keys' list. -/
theorem keys_free {α : Type} (s : SP) (z : α) (f : List ByteArray → α) : ∃ v, ∀ ks, Inv s ks → f ks = v := by
  by_cases h : ∃ ks, Inv s ks
  · obtain ⟨ks, hk⟩ := h
    exact ⟨f ks, fun ks' h' => by rw [h'.unique hk]⟩
  · exact ⟨z, fun ks h' => absurd ⟨ks, h'⟩ h⟩
theorem LS.floorB {w wr : World} {D i : Nat} {s : SP} {O : Nat → Prop} (h : LS w wr D i s O) : Calls Try.prog 14 #[.pointer (some ⟨D, 0, none⟩)] wr fun e w' => e = .returned (.int .i64 s.floor) ∧ Below wr.heap.size wr w' :=
  h.floor.mono fun _ _ ⟨he, hw⟩ => ⟨he, hw ▸ Below.refl _ _⟩
theorem LS.versions {w wr : World} {D i : Nat} {s : SP} {O : Nat → Prop} (h : LS w wr D i s O) (hi : i ≤ 1000) {V : Nat} (hV : ∀ ks, Inv s ks → versS s ks = V) : Calls Try.prog 15 #[.pointer (some ⟨D, 0, none⟩)] wr fun e w' => e = .returned (.int .i64 (V : Int)) ∧ Below wr.heap.size wr w' := by
  obtain ⟨M, vk, ks, h1, h2, h3, -⟩ := h
  have := versions_any h1.st (vers_bound h1.st.inv h2 h3 hi)
  rw [hV ks h1.st.inv] at this
  exact this
theorem LR2.versions {w wr : World} {D R i : Nat} {s t : SP} {O : Nat → Prop} (h : LR2 w wr D R i s t O) (hi : i ≤ 1000) {V : Nat} (hV : ∀ ks, Inv s ks → versS s ks = V) : Calls Try.prog 15 #[.pointer (some ⟨D, 0, none⟩)] wr fun e w' => e = .returned (.int .i64 (V : Int)) ∧ Below wr.heap.size wr w' :=
  h.ls.versions hi hV
theorem LR2.vversions {w wr : World} {D R i : Nat} {s t : SP} {O : Nat → Prop} (h : LR2 w wr D R i s t O) (hi : i ≤ 1000) {V : Nat} (hV : ∀ ks, Inv t ks → versS t ks = V) : Calls Try.prog 16 #[.pointer (some ⟨R, 0, none⟩)] wr fun e w' => e = .returned (.int .i64 (V : Int)) ∧ Below wr.heap.size wr w' := by
  have hb := h.bnd
  obtain ⟨vr, rs, h1, h2⟩ := h.rs
  have := vVersions_any h1 (vers_bound h1.inv (by rw [List.length_map]; exact h2) hb.2.2 hi)
  rw [hV _ h1.inv] at this
  exact this
theorem LR2.wrote {w wr : World} {D R i : Nat} {s t : SP} {O : Nat → Prop} (h : LR2 w wr D R i s t O) (hi : i ≤ 1000) {k : ByteArray} {n : Int} {b : Bool} (hb : wroteS s k n = b) (hk : k.size ≤ 300) : Calls Try.prog 17 #[.pointer (some ⟨D, 0, none⟩), .string k, .int .i64 n] wr fun e w' => e = .returned (.bool b) ∧ Below wr.heap.size wr w' :=
  hb ▸ h.ls.wrote hi k (by simp only [maxLen]; omega) n
theorem LR2.vwrote {w wr : World} {D R i : Nat} {s t : SP} {O : Nat → Prop} (h : LR2 w wr D R i s t O) {k : ByteArray} {n : Int} {b : Bool} (hb : wroteS t k n = b) (hk : k.size ≤ 300) : Calls Try.prog 18 #[.pointer (some ⟨R, 0, none⟩), .string k, .int .i64 n] wr fun e w' => e = .returned (.bool b) ∧ Below wr.heap.size wr w' := by
  obtain ⟨vr, rs, h1, h2⟩ := h.rs
  exact hb ▸ vWrote_any h1 k (by omega) n
theorem LR2.within {w wr : World} {D R i : Nat} {s : SP} {O : Nat → Prop} (h : LR2 w wr D R i s s O) (hi : i ≤ 1000) {x y : ByteArray} {n : Int} {b : Bool} (hb : ∀ ks, Inv s ks → withinS s ks x y n = b) : Calls Try.prog 19 #[.pointer (some ⟨D, 0, none⟩), .string x, .string y, .int .i64 n] wr fun e w' => e = .returned (.bool b) ∧ Below wr.heap.size wr w' := by
  obtain ⟨vr, rs, h1, h2⟩ := h.rs
  have := h.ls.within hi h1.inv x y n
  rw [hb _ h1.inv] at this
  exact this
theorem LR2.vwithin {w wr : World} {D R i : Nat} {s t : SP} {O : Nat → Prop} (h : LR2 w wr D R i s t O) {x y : ByteArray} {n : Int} {b : Bool} (hb : ∀ ks, Inv t ks → withinS t ks x y n = b) : Calls Try.prog 20 #[.pointer (some ⟨R, 0, none⟩), .string x, .string y, .int .i64 n] wr fun e w' => e = .returned (.bool b) ∧ Below wr.heap.size wr w' := by
  obtain ⟨vr, rs, h1, h2⟩ := h.rs
  have := vWithin_any h1 x y n
  rw [hb _ h1.inv] at this
  exact this
/-- Two new stores. -/
theorem lr_new {w w1 w2 : World} {D R : Nat} (h : LS w w1 D 0 sp0 (fun _ => False)) (hb : Below w1.heap.size w1 w2) (hR : w1.heap.size ≤ R) (hd : Blk w2 R 30 (RC (.slice none 0 0) 0 0)) : LR2 w w2 D R 0 sp0 sp0 (fun _ => False) := by
  have hrb : ∀ b, RB R (.slice none 0 0) [] b → b = R := fun b hb => by
    rcases hb with h | h | ⟨x, hx, -⟩
    · exact h
    · cases h
    · cases hx
  refine ⟨.slice none 0 0, [], (h.own hb hR hd.lt).less (fun b hb => hb.elim (fun h => h.elim) (fun h => .inr (hrb b h))), ⟨hd, ownG_nil _ _ _, inv0, by simp, by simp⟩, fun b hb => ?_, fun _ h => h.elim, by simp, by simp [sp0]⟩
  rw [hrb b hb]
  exact Nat.le_trans h.lo.size hR
/-- Around an act and what is asked behind it. -/
def ST (w : World) (D R i : Nat) (s s1 : SP) (E : Nat) (cs : List Value) (k : Nat) (w' : World) : Prop :=
  (match k with | 0 => LR2 w w' D R (2 * i) s s (fun b => b = E) | _ + 1 => LR2 w w' D R (2 * i + 2) s1 s1 (fun b => b = E)) ∧ Blk w' E 33 cs
theorem ST.on {w : World} {D R i : Nat} {s s1 : SP} {E : Nat} {cs : List Value} {k : Nat} {w' w3 : World} (h : ST w D R i s s1 E cs (k + 1) w') (hb : Below w'.heap.size w' w3) : ST w D R i s s1 E cs (k + 1 + 1) w3 := ⟨LR2.kept h.1 hb, h.2.kept hb⟩
theorem ST.zero {w : World} {D R i : Nat} {s s1 : SP} {E : Nat} {cs : List Value} {w' w3 : World} (h : ST w D R i s s1 E cs 0 w') (hb : Below w'.heap.size w' w3) : ST w D R i s s1 E cs 0 w3 := ⟨LR2.kept h.1 hb, h.2.kept hb⟩
theorem ST.rs {w : World} {D R i : Nat} {s s1 : SP} {E : Nat} {cs : List Value} {k : Nat} {w' : World} (h : ST w D R i s s1 E cs k w') (hk : 1 ≤ k) : ∃ vr rs, RS w' R vr rs s1 := by
  cases k with
  | zero => omega
  | succ k =>
    obtain ⟨vr, rs, h1, -⟩ := LR2.rs h.1
    exact ⟨vr, rs, h1⟩
theorem ST.last {w : World} {D R i : Nat} {s s1 : SP} {E : Nat} {cs : List Value} {k : Nat} {w' : World} (h : ST w D R i s s1 E cs k w') (hk : 1 ≤ k) : w'.cell? ⟨R, 1, none⟩ = some (.int .i64 s1.last) := by
  obtain ⟨vr, rs, h1⟩ := h.rs hk
  exact h1.d.cell (j := 1) rfl
theorem ST.floor {w : World} {D R i : Nat} {s s1 : SP} {E : Nat} {cs : List Value} {k : Nat} {w' : World} (h : ST w D R i s s1 E cs k w') (hk : 1 ≤ k) : w'.cell? ⟨R, 2, none⟩ = some (.int .i64 s1.floor) := by
  obtain ⟨vr, rs, h1⟩ := h.rs hk
  exact h1.d.cell (j := 2) rfl
end Go.Proofs.Ytgaoionnfkbhaaa
