/-
  indenturelaw01.PackBehind: the walk: the call returns true and makes new memory alone.
-/
import Derived.Test.YtcfakmjkbgcbhaaBackWalk
namespace Go.Proofs.Ytcfakmjkbgcbhaa
open Go.RowKit

/-- A new slice of one text. -/
theorem rdS_one (w : World) (s : ByteArray) : RdS (w.alloc (.cells #[.string s] 9 (0, 0))) (.slice (some ⟨w.heap.size, 0, none⟩) 1 1) [s] := by
  refine ⟨_, _, rfl, Nat.le_refl _, by simp [maxLen], fun h => by simp at h, fun _ => ⟨_, _, rfl, by simp, fun j hj => ?_⟩⟩
  rw [cell_of_row _ _ _ _ 9 (0, 0) (heap_alloc_new w _)]
  simp at hj
  subst hj
  rfl

/-- Where what is owned and not empty lies. -/
theorem Own.at {w : World} {B : Nat} {v : Value} {l : List UInt8} (h : Own w B v l) (hl : 0 < l.length) : ∃ g cap, v = .slice (some ⟨g, 0, none⟩) l.length cap ∧ B ≤ g ∧ g < w.heap.size := by
  obtain ⟨h1, h2⟩ := h
  rcases h2 with ⟨rfl, hn⟩ | ⟨g, cap, cur, rfl, hg, hh, -⟩
  · omega
  · exact ⟨g, cap, rfl, hg, (Array.getElem?_eq_some_iff.1 hh).1⟩

/-- wr is W, but for the blocks of S, and new ones. -/
structure Off (S : Nat → Prop) (W wr : World) : Prop where
  os : wr.os = W.os
  tape : wr.tape = W.tape
  output : wr.output = W.output
  size : W.heap.size ≤ wr.heap.size
  block : ∀ k, k < W.heap.size → ¬ S k → wr.heap[k]? = W.heap[k]?
theorem Off.refl (S : Nat → Prop) (W : World) : Off S W W := ⟨rfl, rfl, rfl, Nat.le_refl _, fun _ _ _ => rfl⟩
theorem Off.trans {S T : Nat → Prop} {a b c : World} (h : Off S a b) (k : Off T b c) (hS : ∀ x, T x → S x) : Off S a c :=
  ⟨k.os.trans h.os, k.tape.trans h.tape, k.output.trans h.output, Nat.le_trans h.size k.size, fun i hi hn => (k.block i (Nat.lt_of_lt_of_le hi h.size) (fun ht => hn (hS i ht))).trans (h.block i hi hn)⟩
theorem Off.imp {S T : Nat → Prop} {a b : World} (h : Off S a b) (hS : ∀ x, S x → T x) : Off T a b :=
  ⟨h.os, h.tape, h.output, h.size, fun k hk hn => h.block k hk (fun hs => hn (hS k hs))⟩
theorem Off.of_below {S : Nat → Prop} {a b : World} (h : Below a.heap.size a b) : Off S a b := ⟨h.os, h.tape, h.output, h.size, fun k hk _ => h.block k hk⟩
theorem Off.below {S : Nat → Prop} {W wr : World} {B : Nat} (h : Off S W wr) (hS : ∀ k, S k → B ≤ k) (hB : B ≤ W.heap.size) : Below B W wr :=
  ⟨h.os, h.tape, h.output, h.size, fun k hk => h.block k (Nat.lt_of_lt_of_le hk hB) (fun hs => by have := hS k hs; omega)⟩
theorem Off.own {S : Nat → Prop} {W wr : World} {B : Nat} {v : Value} {m : List UInt8} (h : Off S W wr) (ho : Own W B v m) (hv : ∀ k, v.ownBlock = some k → ¬ S k) : Own wr B v m := by
  obtain ⟨h1, h2⟩ := ho
  refine ⟨h1, ?_⟩
  rcases h2 with h2 | ⟨g, cap, cur, rfl, hg, hh, r⟩
  · exact Or.inl h2
  · have hlt : g < W.heap.size := (Array.getElem?_eq_some_iff.1 hh).1
    exact Or.inr ⟨g, cap, cur, rfl, hg, by rw [h.block g hlt (hv g rfl)]; exact hh, r⟩
theorem Off.cell {S : Nat → Prop} {W wr : World} (h : Off S W wr) {b o : Nat} (hb : b < W.heap.size) (hn : ¬ S b) : wr.cell? ⟨b, o, none⟩ = W.cell? ⟨b, o, none⟩ := World.cell?_of_block (w := W) (a := ⟨b, o, none⟩) (h.block b hb hn)

theorem rd_below {w w' : World} {v : Value} {l : List UInt8} (h : Rd w v l) (hb : Below w.heap.size w w') : Rd w' v l := h.kept hb

theorem ba_append (l m : List UInt8) : (ByteArray.mk l.toArray) ++ (ByteArray.mk m.toArray) = ByteArray.mk (l ++ m).toArray := by
  apply WideShapes.bytes_inj
  simp

/-- The four pairs, where they lie, and that they lie apart. -/
structure Pairs (W : World) (H A : Nat) (l : List UInt8) (vo : Value) (G K C D : Nat → Nat) (X : Nat → List UInt8) : Prop where
  first : ∀ i, i < 4 → W.cell? ⟨A, i * 2, none⟩ = some (.slice (some ⟨G i, 0, none⟩) (l.length + (X i).length) (C i))
  second : ∀ i, i < 4 → W.cell? ⟨A, i * 2 + 1, none⟩ = some (.slice (some ⟨K i, 0, none⟩) (X i).length (D i))
  ownP : ∀ i, i < 4 → Own W H (.slice (some ⟨G i, 0, none⟩) (l.length + (X i).length) (C i)) (l ++ X i)
  ownQ : ∀ i, i < 4 → Own W H (.slice (some ⟨K i, 0, none⟩) (X i).length (D i)) (X i)
  apart : ∀ i j, i < 4 → j < 4 → i ≠ j → G i ≠ G j
  apartK : ∀ i j, i < 4 → j < 4 → G i ≠ K j
  apartA : ∀ i, i < 4 → G i ≠ A
  apartO : ∀ i k, i < 4 → vo.ownBlock = some k → G i ≠ k
  new : ∀ i, i < 4 → H ≤ G i ∧ G i < W.heap.size
  old : A < W.heap.size
  len : ∀ i, i < 4 → (X i).length ≤ 3000

theorem four {p : Nat → Prop} (h0 : p 0) (h1 : p 1) (h2 : p 2) (h3 : p 3) : ∀ i, i < 4 → p i
  | 0, _ => h0
  | 1, _ => h1
  | 2, _ => h2
  | 3, _ => h3
  | n + 4, h => by omega

def pick4 {α : Type} (a b c d : α) : Nat → α
  | 0 => a
  | 1 => b
  | 2 => c
  | _ => d

theorem off_set (w : World) (g j : Nat) (u : Value) : Off (fun x => x = g) w (w.setCell ⟨g, j, none⟩ u) :=
  ⟨rfl, rfl, rfl, by simp [World.setCell], fun k _ hn => heap_setCell_other w ⟨g, j, none⟩ k u hn⟩

/-- A byte of an own row, read and written. -/
theorem own_turn {w : World} {B g n cap : Nat} {L : List UInt8} (h : Own w B (.slice (some ⟨g, 0, none⟩) n cap) L) (hn : L.length = n) (j : Nat) (hj : j < n) :
    w.cell? ⟨g, j, none⟩ = some (.int .u8 ((L[j]'(by omega)).toNat : Int)) ∧ w.frozen? ⟨g, j, none⟩ = false ∧
    ∀ x : UInt8, Own (w.setCell ⟨g, j, none⟩ (.int .u8 (x.toNat : Int))) B (.slice (some ⟨g, 0, none⟩) n cap) (L.set j x) := by
  subst hn
  refine ⟨?_, World.ownsRow.frozenAt h j, fun x => ?_⟩
  · rw [World.ownsRow.cellAt h j (by omega), By_get hj]
  · have := (World.ownsRow.stored h j (.int .u8 (x.toNat : Int))).1
    unfold Own
    rw [List.length_set]
    have e : By (L.set j x) = (By L).set j (.int .u8 (x.toNat : Int)) := by simp [By, List.map_set]
    rw [e]
    exact this

set_option maxRecDepth 100000 in
set_option maxHeartbeats 4000000 in
theorem packBehind_core (v : Value) (l : List UInt8) (n : Nat) (s : ByteArray) (w : World) (hr : Rd w v l) (h2 : Hid (n < 256 ^ 8)) (hs : s.size ≤ 140737488351232) (hlb : l.length ≤ 140737488351232) :
    Calls Try.prog 8 #[v, .int .u64 n, .string s] w fun e w' => e = .returned (.bool true) ∧ Below w.heap.size w w' := by
  have hr0 := hr
  obtain ⟨a, cap, rfl, -⟩ := hr
  obtain ⟨i0, hi, hz0, hz1, hz2⟩ := info_parts Try.info5
  have hlb' : (l.length : Int) ≤ 140737488351232 := by omega
  have hs' : (s.size : Int) ≤ 140737488351232 := by omega
  by_cases hl : 2000 < l.length
  · have hl' : (2000 : Int) < l.length := by omega
    go_enter Try.func8, Try.ntmps8
    go_wp2_with fail
    refine (lives_any _).mono ?_
    rintro e w1 ⟨rfl, hb1⟩
    go_wp2_with fail
    go_ret
    exact ⟨rfl, hb1⟩
  · have hl' : ¬ (2000 : Int) < l.length := by omega
    by_cases hsl : 2000 < s.size
    · have hsl' : (2000 : Int) < s.size := by omega
      go_enter Try.func8, Try.ntmps8
      go_wp2_with fail
      refine (lives_any _).mono ?_
      rintro e w1 ⟨rfl, hb1⟩
      go_wp2_with fail
      go_ret
      exact ⟨rfl, hb1⟩
    · have hsl' : ¬ (2000 : Int) < s.size := by omega
      have hr1 : Rd (w.alloc (.cells #[] 5 (0, 0))) (.slice a l.length cap) l := hr0.kept ((Below.refl _ _).alloc (Nat.le_refl _) _)
      have hen := enc_length n
      have hes := encS_len s
      have hes1 : 1 ≤ (encS (sl s)).length := by have := enc_length (sl s).length; simp [encS]; omega
      have heL : (encL (sls [s])).length ≤ 9 + (9 + s.size) ∧ 1 ≤ (encL (sls [s])).length := by
        have h1 := enc_length (sls [s]).length
        simp only [encL, sls, List.map_cons, List.map_nil, encT, List.length_append, List.length_nil] at *
        omega
      have heT : (encT (sls [s])).length ≤ 9 + s.size := by
        simp only [sls, List.map_cons, List.map_nil, encT, List.length_append, List.length_nil]
        omega
      go_enter Try.func8, Try.ntmps8
      go_wp2_with (at_builtin; refine wpList_append_bytes _ rfl (.tmp 20) (.tmp 21) 22 22 rfl w.heap.size i0 Try.underlying22 hi hz0 hz1 hz2 _ [] rfl (own_none w _ (Nat.le_refl _)) _ l rfl (hr1.src 22 Try.underlying22) (by simp; omega) (by simp) ?_; intro vo w1 ho1 hb1; simp only [List.nil_append] at ho1)
      have hbw1 : Below w.heap.size w w1 := ((Below.refl _ _).alloc (Nat.le_refl _) _).trans hb1
      clear hb1 hr1
      obtain ⟨ao, co, rfl, hco, -⟩ := ho1.form
      refine (num_any _ l n _ ho1.rd h2 (by omega)).mono ?_
      rintro e w2 ⟨p0, rfl, op0, b2⟩
      obtain ⟨g0, c0, rfl, lo0, hi0⟩ := op0.at (by simp; omega)
      go_wp2_with fail
      refine (num_any _ [] n _ (Rd_nil _) h2 (by simp)).mono ?_
      rintro e w3 ⟨q0, rfl, oq0, b3⟩
      obtain ⟨k0, d0, rfl, lq0, hq0⟩ := oq0.at (by simp; omega)
      go_wp2_with fail
      refine (str_any _ l s _ ((ho1.kept (b2.trans (b3.mono b2.size))).rd) (by omega)).mono ?_
      rintro e w4 ⟨p1, rfl, op1, b4⟩
      obtain ⟨g1, c1, rfl, lo1, hi1⟩ := op1.at (by simp; omega)
      go_wp2_with fail
      refine (str_any _ [] s _ (Rd_nil _) (by simp; omega)).mono ?_
      rintro e w5 ⟨q1, rfl, oq1, b5⟩
      obtain ⟨k1, d1, rfl, lq1, hq1⟩ := oq1.at (by simp; omega)
      have b15 : Below w1.heap.size w1 w5 := ((b2.trans (b3.mono b2.size)).trans (b4.mono (Nat.le_trans b2.size b3.size))).trans (b5.mono (Nat.le_trans (Nat.le_trans b2.size b3.size) b4.size))
      go_wp2_with fail
      refine (flag_any _ l true _ ((ho1.kept b15).rd) (by omega)).mono ?_
      rintro e w6 ⟨p2, rfl, op2, b6⟩
      obtain ⟨g2, c2, rfl, lo2, hi2⟩ := op2.at (by simp)
      go_wp2_with fail
      refine (flag_any _ [] true _ (Rd_nil _) (by simp)).mono ?_
      rintro e w7 ⟨q2, rfl, oq2, b7⟩
      obtain ⟨k2, d2, rfl, lq2, hq2⟩ := oq2.at (by simp)
      have b17 : Below w1.heap.size w1 w7 := (b15.trans (b6.mono b15.size)).trans (b7.mono (Nat.le_trans b15.size b6.size))
      go_wp2_with fail
      refine (list_any _ _ l [s] _ ((ho1.kept (b17.alloc b17.size _)).rd) (rdS_one w7 s) (by simp; omega)).mono ?_
      rintro e w8 ⟨p3, rfl, op3, b8⟩
      obtain ⟨g3, c3, rfl, lo3, hi3⟩ := op3.at (by simp; omega)
      have b78 : Below w7.heap.size w7 w8 := ((Below.refl _ _).alloc (Nat.le_refl _) _).trans (b8.mono (by simp))
      have lo3' : w7.heap.size + 1 ≤ g3 := by simpa using lo3
      clear b8 lo3
      go_wp2_with fail
      refine (list_any _ _ [] [s] _ (Rd_nil _) (rdS_one w8 s) (by simp; omega)).mono ?_
      rintro e w9 ⟨q3, rfl, oq3, b9⟩
      obtain ⟨k3, d3, rfl, lq3, hq3⟩ := oq3.at (by simp; omega)
      have b89 : Below w8.heap.size w8 w9 := ((Below.refl _ _).alloc (Nat.le_refl _) _).trans (b9.mono (by simp))
      have lq3' : w8.heap.size + 1 ≤ k3 := by simpa using lq3
      clear b9 lq3
      have s2 := b2.size; have s3 := b3.size; have s4 := b4.size; have s5 := b5.size; have s6 := b6.size; have s7 := b7.size; have s8 := b78.size; have s9 := b89.size
      go_wp2_with fail
      have sw := hbw1.size
      have e9 : Below w9.heap.size w9 (w9.alloc (.cells #[.slice (some ⟨g0, 0, none⟩) (l.length + (enc n).length) c0, .slice (some ⟨k0, 0, none⟩) (enc n).length d0, .slice (some ⟨g1, 0, none⟩) (l.length + (encS (sl s)).length) c1, .slice (some ⟨k1, 0, none⟩) (encS (sl s)).length d1, .slice (some ⟨g2, 0, none⟩) (l.length + 1) c2, .slice (some ⟨k2, 0, none⟩) 1 d2, .slice (some ⟨g3, 0, none⟩) (l.length + (encL (sls [s])).length) c3, .slice (some ⟨k3, 0, none⟩) (encL (sls [s])).length d3] 47 (0, 0))) := (Below.refl _ _).alloc (Nat.le_refl _) _
      have hcells := heap_alloc_new w9 (.cells #[.slice (some ⟨g0, 0, none⟩) (l.length + (enc n).length) c0, .slice (some ⟨k0, 0, none⟩) (enc n).length d0, .slice (some ⟨g1, 0, none⟩) (l.length + (encS (sl s)).length) c1, .slice (some ⟨k1, 0, none⟩) (encS (sl s)).length d1, .slice (some ⟨g2, 0, none⟩) (l.length + 1) c2, .slice (some ⟨k2, 0, none⟩) 1 d2, .slice (some ⟨g3, 0, none⟩) (l.length + (encL (sls [s])).length) c3, .slice (some ⟨k3, 0, none⟩) (encL (sls [s])).length d3] 47 (0, 0))
      have sW : (w9.alloc (.cells #[.slice (some ⟨g0, 0, none⟩) (l.length + (enc n).length) c0, .slice (some ⟨k0, 0, none⟩) (enc n).length d0, .slice (some ⟨g1, 0, none⟩) (l.length + (encS (sl s)).length) c1, .slice (some ⟨k1, 0, none⟩) (encS (sl s)).length d1, .slice (some ⟨g2, 0, none⟩) (l.length + 1) c2, .slice (some ⟨k2, 0, none⟩) 1 d2, .slice (some ⟨g3, 0, none⟩) (l.length + (encL (sls [s])).length) c3, .slice (some ⟨k3, 0, none⟩) (encL (sls [s])).length d3] 47 (0, 0))).heap.size = w9.heap.size + 1 := by simp
      generalize hWW : w9.alloc (.cells #[.slice (some ⟨g0, 0, none⟩) (l.length + (enc n).length) c0, .slice (some ⟨k0, 0, none⟩) (enc n).length d0, .slice (some ⟨g1, 0, none⟩) (l.length + (encS (sl s)).length) c1, .slice (some ⟨k1, 0, none⟩) (encS (sl s)).length d1, .slice (some ⟨g2, 0, none⟩) (l.length + 1) c2, .slice (some ⟨k2, 0, none⟩) 1 d2, .slice (some ⟨g3, 0, none⟩) (l.length + (encL (sls [s])).length) c3, .slice (some ⟨k3, 0, none⟩) (encL (sls [s])).length d3] 47 (0, 0)) = W at *
      clear hWW
      have e8 := b89.trans (e9.mono s9)
      have e7 := b78.trans (e8.mono s8)
      have e6 := b7.trans (e7.mono s7)
      have e5 := b6.trans (e6.mono s6)
      have e4 := b5.trans (e5.mono s5)
      have e3 := b4.trans (e4.mono s4)
      have e2 := b3.trans (e3.mono s3)
      have e1 : Below w1.heap.size w1 W := b2.trans (e2.mono s2)
      have hoW := (ho1.kept e1)
      have hobl : ∀ k, (Value.slice ao l.length co).ownBlock = some k → k < w1.heap.size := fun k hk => (World.ownsRow.lt ho1 k hk).2
      have hbW : Below w.heap.size w W := hbw1.trans (e1.mono hbw1.size)
      have hP : Pairs W w.heap.size w9.heap.size l (.slice ao l.length co) (pick4 g0 g1 g2 g3) (pick4 k0 k1 k2 k3) (pick4 c0 c1 c2 c3) (pick4 d0 d1 d2 d3) (pick4 (enc n) (encS (sl s)) [1] (encL (sls [s]))) := by
        refine ⟨?_, ?_, ?_, ?_, ?_, ?_, ?_, ?_, ?_, by omega, ?_⟩
        · exact four (cell_of_row _ _ 0 _ 47 (0, 0) hcells) (cell_of_row _ _ 2 _ 47 (0, 0) hcells) (cell_of_row _ _ 4 _ 47 (0, 0) hcells) (cell_of_row _ _ 6 _ 47 (0, 0) hcells)
        · exact four (cell_of_row _ _ 1 _ 47 (0, 0) hcells) (cell_of_row _ _ 3 _ 47 (0, 0) hcells) (cell_of_row _ _ 5 _ 47 (0, 0) hcells) (cell_of_row _ _ 7 _ 47 (0, 0) hcells)
        · refine four ?_ ?_ ?_ ?_
          · have := (op0.kept e2).mono (show w.heap.size ≤ _ by omega); rwa [List.length_append] at this
          · have := (op1.kept e4).mono (show w.heap.size ≤ _ by omega); rwa [List.length_append] at this
          · have := (op2.kept e6).mono (show w.heap.size ≤ _ by omega); rwa [List.length_append] at this
          · have := (op3.kept e8).mono (show w.heap.size ≤ _ by simp; omega); rwa [List.length_append] at this
        · refine four ?_ ?_ ?_ ?_
          · exact (oq0.kept e3).mono (show w.heap.size ≤ _ by omega)
          · exact (oq1.kept e5).mono (show w.heap.size ≤ _ by omega)
          · exact (oq2.kept e7).mono (show w.heap.size ≤ _ by omega)
          · exact (oq3.kept e9).mono (show w.heap.size ≤ _ by simp; omega)
        · have hh : ∀ i, i < 4 → ∀ j, j < 4 → i ≠ j → pick4 g0 g1 g2 g3 i ≠ pick4 g0 g1 g2 g3 j := four (four (fun h => absurd rfl h) (fun _ => show g0 ≠ g1 by omega) (fun _ => show g0 ≠ g2 by omega) (fun _ => show g0 ≠ g3 by omega)) (four (fun _ => show g1 ≠ g0 by omega) (fun h => absurd rfl h) (fun _ => show g1 ≠ g2 by omega) (fun _ => show g1 ≠ g3 by omega)) (four (fun _ => show g2 ≠ g0 by omega) (fun _ => show g2 ≠ g1 by omega) (fun h => absurd rfl h) (fun _ => show g2 ≠ g3 by omega)) (four (fun _ => show g3 ≠ g0 by omega) (fun _ => show g3 ≠ g1 by omega) (fun _ => show g3 ≠ g2 by omega) (fun h => absurd rfl h))
          exact fun i j hi hj => hh i hi j hj
        · have hh : ∀ i, i < 4 → ∀ j, j < 4 → pick4 g0 g1 g2 g3 i ≠ pick4 k0 k1 k2 k3 j := four (four (show g0 ≠ k0 by omega) (show g0 ≠ k1 by omega) (show g0 ≠ k2 by omega) (show g0 ≠ k3 by omega)) (four (show g1 ≠ k0 by omega) (show g1 ≠ k1 by omega) (show g1 ≠ k2 by omega) (show g1 ≠ k3 by omega)) (four (show g2 ≠ k0 by omega) (show g2 ≠ k1 by omega) (show g2 ≠ k2 by omega) (show g2 ≠ k3 by omega)) (four (show g3 ≠ k0 by omega) (show g3 ≠ k1 by omega) (show g3 ≠ k2 by omega) (show g3 ≠ k3 by omega))
          exact fun i j hi hj => hh i hi j hj
        · exact four (show g0 ≠ _ by omega) (show g1 ≠ _ by omega) (show g2 ≠ _ by omega) (show g3 ≠ _ by omega)
        · intro i k hi hk
          have := hobl k hk
          revert i
          exact four (show g0 ≠ _ by omega) (show g1 ≠ _ by omega) (show g2 ≠ _ by omega) (show g3 ≠ _ by omega)
        · exact four (show _ ≤ g0 ∧ g0 < _ by omega) (show _ ≤ g1 ∧ g1 < _ by omega) (show _ ≤ g2 ∧ g2 < _ by omega) (show _ ≤ g3 ∧ g3 < _ by omega)
        · exact four (show (enc n).length ≤ _ by omega) (show (encS (sl s)).length ≤ _ by omega) (show [(1 : UInt8)].length ≤ _ by simp) (show (encL (sls [s])).length ≤ _ by omega)
      obtain ⟨G, K, C, D, X, HP⟩ : ∃ G K C D X, Hid (Pairs W w.heap.size w9.heap.size l (.slice ao l.length co) G K C D X) := ⟨_, _, _, _, _, hP⟩
      have HO : Hid (Own W w.heap.size (.slice ao l.length co) l) := hoW
      have hr00 : Rd w (.slice a l.length cap) l := hr0
      clear hP hoW hobl hcells e1 e2 e3 e4 e5 e6 e7 e8 e9 op0 op1 op2 op3 oq0 oq1 oq2 oq3 b2 b3 b4 b5 b6 b7 b78 b89 b15 b17 ho1 hr0 heL heT hes hes1 hen
      clear lo0 hi0 lq0 hq0 lo1 hi1 lq1 hq1 lo2 hi2 lq2 hq2 lo3' hi3 lq3' hq3 s2 s3 s4 s5 s6 s7 s8 s9 hbw1 sw
      go_loopw [49] (fun z wr => ∃ i : Nat, i ≤ 4 ∧ z = .int .i64 i ∧ Hid (Off (fun x => ∃ j, j < i ∧ x = G j) W wr))
        (fun z _ => 4 - (intOf z).toNat)
      case atStart => exact ⟨0, by omega, rfl, Off.refl _ _⟩
      case round =>
        obtain ⟨i, hi4, rfl, HF⟩ := hrel
        by_cases hlt : i < 4
        · have hlt' : (i : Int) < 4 := by omega
          have hP := HP.out
          have hnG : ∀ x, (∀ j, j < 4 → G j ≠ x) → ¬ (∃ j, j < i ∧ x = G j) := fun x hx ⟨j, hj, e⟩ => hx j (by omega) e.symm
          have hc1 : wr.cell? ⟨w9.heap.size, i * 2, none⟩ = some (.slice (some ⟨G i, 0, none⟩) (l.length + (X i).length) (C i)) := (HF.out.cell hP.old (hnG _ (fun j hj => hP.apartA j hj))).trans (hP.first i hlt)
          have hc2 : wr.cell? ⟨w9.heap.size, i * 2 + 1, none⟩ = some (.slice (some ⟨K i, 0, none⟩) (X i).length (D i)) := (HF.out.cell hP.old (hnG _ (fun j hj => hP.apartA j hj))).trans (hP.second i hlt)
          have oP : Own wr w.heap.size (.slice (some ⟨G i, 0, none⟩) (l.length + (X i).length) (C i)) (l ++ X i) := HF.out.own (hP.ownP i hlt) (fun k hk => by
            simp [Value.ownBlock] at hk
            rintro ⟨j, hj, e⟩
            exact hP.apart i j hlt (by omega) (by omega) (hk.trans e))
          have oQ : Own wr w.heap.size (.slice (some ⟨K i, 0, none⟩) (X i).length (D i)) (X i) := HF.out.own (hP.ownQ i hlt) (fun k hk => by
            simp [Value.ownBlock] at hk
            rintro ⟨j, hj, e⟩
            exact hP.apartK j i (by omega) hlt (e.symm.trans hk.symm))
          have hXl := hP.len i hlt
          have hGi := hP.new i hlt
          have hbelW : Below w.heap.size W wr := HF.out.below (fun x ⟨j, hj, e⟩ => by rw [e]; exact (hP.new j (by omega)).1) hbW.size
          have oB : Rd wr (.slice a l.length cap) l := rd_below hr00 (hbW.trans hbelW)
          have hA1 : Below wr.heap.size wr (wr.alloc (.cells #[.slice (some ⟨G i, 0, none⟩) (l.length + (X i).length) (C i), .slice (some ⟨K i, 0, none⟩) (X i).length (D i)] 47 (0, 0))) := (Below.refl _ _).alloc (Nat.le_refl _) _
          have cP := (oP.kept hA1).rd.conv (P := Try.prog) 22 9 Try.underlying22 Try.underlying5 Try.underlying9
          have cQ := (oQ.kept hA1).rd.conv (P := Try.prog) 22 9 Try.underlying22 Try.underlying5 Try.underlying9
          have cB := (oB.kept hA1).conv (P := Try.prog) 22 9 Try.underlying22 Try.underlying5 Try.underlying9
          have hadd : (ByteArray.mk l.toArray) ++ (ByteArray.mk (X i).toArray) = ByteArray.mk (l ++ X i).toArray := ba_append l (X i)
          have hsl1 : (ByteArray.mk l.toArray).size = l.length := by simp [ByteArray.size]
          have hsl2 : (ByteArray.mk (X i).toArray).size = (X i).length := by simp [ByteArray.size]
          have hsum : ((ByteArray.mk l.toArray).size : Int) + ((ByteArray.mk (X i).toArray).size : Int) ≤ 6000 := by omega
          generalize ByteArray.mk l.toArray = bl at *
          generalize ByteArray.mk (X i).toArray = bx at *
          generalize ByteArray.mk (l ++ X i).toArray = bs at *
          clear hP hnG hsl1 hsl2
          go_wp2_with fail
          have HA : Hid (Own (wr.alloc (.cells #[.slice (some ⟨G i, 0, none⟩) (l.length + (X i).length) (C i), .slice (some ⟨K i, 0, none⟩) (X i).length (D i)] 47 (0, 0))) w.heap.size (.slice (some ⟨G i, 0, none⟩) (l.length + (X i).length) (C i)) (l ++ X i)) := oP.kept hA1
          have hpv : (wr.alloc (.cells #[.slice (some ⟨G i, 0, none⟩) (l.length + (X i).length) (C i), .slice (some ⟨K i, 0, none⟩) (X i).length (D i)] 47 (0, 0))).cell? ⟨wr.heap.size, 0, none⟩ = some (.slice (some ⟨G i, 0, none⟩) (l.length + (X i).length) (C i)) := cell_of_row _ _ 0 _ 47 (0, 0) (heap_alloc_new wr _)
          have hsA : (wr.alloc (.cells #[.slice (some ⟨G i, 0, none⟩) (l.length + (X i).length) (C i), .slice (some ⟨K i, 0, none⟩) (X i).length (D i)] 47 (0, 0))).heap.size = wr.heap.size + 1 := by simp
          have hsW := HF.out.size
          have HM : Hid ((l ++ X i).length = l.length + (X i).length) := List.length_append
          generalize (wr.alloc (.cells #[.slice (some ⟨G i, 0, none⟩) (l.length + (X i).length) (C i), .slice (some ⟨K i, 0, none⟩) (X i).length (D i)] 47 (0, 0))) = wA at *
          have HPV : Hid (wA.cell? ⟨wr.heap.size, 0, none⟩ = some (.slice (some ⟨G i, 0, none⟩) (l.length + (X i).length) (C i))) := hpv
          clear cP cQ cB hadd hsum hc1 hc2 oP oQ oB hpv
          obtain ⟨wo, hwo⟩ : ∃ wo, wo = wr := ⟨_, rfl⟩
          subst hwo
          go_loopw [66] (fun z w2 => ∃ (j : Nat) (L : List UInt8), j ≤ l.length + (X i).length ∧ z = .int .i64 j ∧ Hid (L.length = l.length + (X i).length) ∧ Hid (Own w2 w.heap.size (.slice (some ⟨G i, 0, none⟩) (l.length + (X i).length) (C i)) L) ∧ Hid (Off (fun x => x = G i) wA w2))
            (fun z _ => l.length + (X i).length - (intOf z).toNat)
          case atStart => exact ⟨0, l ++ X i, Nat.zero_le _, rfl, HM, HA, Off.refl _ _⟩
          case round =>
            obtain ⟨j, L, hj, rfl, HL, HO2, HF2⟩ := hrel
            by_cases hjl : j < l.length + (X i).length
            · have hjl' : (j : Int) < (l.length : Int) + (X i).length := by omega
              have hc0 : wr.cell? ⟨wo.heap.size, 0, none⟩ = some (.slice (some ⟨G i, 0, none⟩) (l.length + (X i).length) (C i)) := (HF2.out.cell (by omega) (by omega)).trans HPV.out
              obtain ⟨t1, t2, t3⟩ := own_turn HO2.out HL.out j hjl
              go_wp2_with fail
              go_roundw
              case rel =>
                refine ⟨j + 1, L.set j (UInt8.ofNat ((L[j]'(by have := HL.out; omega)).toNat + 1)), by omega, by go_num, ?_, ?_, ?_⟩
                · exact (show _ = _ by rw [List.length_set]; exact HL.out)
                · have h3 := t3 (UInt8.ofNat ((L[j]'(by have := HL.out; omega)).toNat + 1))
                  rw [← byte_mod] at h3
                  exact h3
                · exact HF2.out.trans (off_set _ (G i) j _) (fun _ h => h)
              case measure => simp [intOf]; omega
            · obtain rfl : j = l.length + (X i).length := by omega
              have hjl' : ¬ ((l.length : Int) + (X i).length) < (l.length : Int) + (X i).length := by omega
              have HF3 : Hid (Off (fun x => ∃ j, j < i + 1 ∧ x = G j) W wr) := (((HF.out.imp (fun x ⟨j, hj, e⟩ => ⟨j, Nat.lt_succ_of_lt hj, e⟩)).trans (Off.of_below (S := fun x => ∃ j, j < i + 1 ∧ x = G j) hA1) (fun _ h => h)).trans HF2.out (fun x h => ⟨i, Nat.lt_succ_self i, h⟩))
              go_wp2_with fail
              go_roundw
              case rel => exact ⟨i + 1, by omega, by go_num, HF3⟩
              case measure => simp [intOf]; omega
        · obtain rfl : i = 4 := by omega
          have hP := HP.out
          have hbelW : Below w.heap.size W wr := HF.out.below (fun x ⟨j, hj, e⟩ => by rw [e]; exact (hP.new j hj).1) hbW.size
          have hbe : Below w.heap.size w wr := hbW.trans hbelW
          have oO : Own wr w.heap.size (.slice ao l.length co) l := HF.out.own HO.out (fun k hk ⟨j, hj, e⟩ => hP.apartO j k hj hk e.symm)
          have cO := oO.rd.conv (P := Try.prog) 22 9 Try.underlying22 Try.underlying5 Try.underlying9
          have cB := (rd_below hr00 hbe).conv (P := Try.prog) 22 9 Try.underlying22 Try.underlying5 Try.underlying9
          clear hP oO hbelW
          go_wp2_with fail
          refine (lives_any _).mono ?_
          rintro e w5 ⟨rfl, hb5⟩
          go_wp2_with fail
          go_ret
          exact ⟨rfl, hbe.trans (hb5.mono hbe.size)⟩
#print axioms packBehind_core
end Go.Proofs.Ytcfakmjkbgcbhaa
