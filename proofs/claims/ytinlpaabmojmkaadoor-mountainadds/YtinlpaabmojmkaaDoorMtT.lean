/-
  mountain.Peaks.Root: what the call does.
-/
import Derived.Test.YtinlpaabmojmkaaDoorMtRb
import Derived.Test.YtinlpaabmojmkaaDoorMtA
import Derived.Test.YtinlpaabmojmkaaDoorGM9
namespace Go.Proofs.YtinlpaabmojmkaaDoor
open Go.RowKit Go.Shelf
attribute [local go_sem] Oper.semAt_some
/-- The root of peaks. -/
def rootP (s : Int) (L : List Hs) : Hs := if s = 0 ∨ goodB s L.length = false then em else joined nd em L
theorem keeps_chg {F : Nat → Prop} {W W' : World} {B : Nat} (h : Chg F W W') (hF : ∀ k o, F k → W.heap[k]? = some o → o.isCells = true) : KeepsFrom B W W' :=
  ⟨h.size, fun k o _ hk ho => by
    have hlt : k < W.heap.size := (Array.getElem?_eq_some_iff.1 hk).1
    rw [h.block k hlt (fun hf => by rw [hF k o hf hk] at ho; cases ho)]
    exact hk⟩
/-- Two boxes: peaks, and room for a hash. -/
theorem boxes2 {w w0 : World} {N : Nat} {c0 c1 : List Value} {T0 T1 : TypeId} (HN : Hid (w.heap.size = N)) (hw : w0 = (w.alloc (.cells c0.toArray T0 (0, 0))).alloc (.cells c1.toArray T1 (0, 0))) :
    Blk w0 N T0 c0 ∧ Blk w0 (N + 1) T1 c1 ∧ Below N w w0 := by
  subst hw
  have h1 := Blk.new w T0 c0
  have h2 := Blk.new (w.alloc (.cells c0.toArray T0 (0, 0))) T1 c1
  rw [show (w.alloc (.cells c0.toArray T0 (0, 0))).heap.size = N + 1 by simp [HN.out]] at h2
  rw [HN.out] at h1
  exact ⟨h1.alloc _, h2, ((Below.refl _ _).alloc (by rw [HN.out]; exact Nat.le_refl _) _).alloc (by simp [HN.out]) _⟩
set_option maxHeartbeats 2000000 in
set_option maxRecDepth 100000 in
theorem proot_none (s : Int) (t : Value) (L : List Hs) (h1 : s ≤ 9223372036854775807) (hn : s = 0 ∨ goodB s L.length = false) (w : World) (hT : Tabs w) (hr : RdG HE w t L) :
    Calls Tryd.prog 17 #[.agg #[.int .i64 s, t]] w fun e w' => e = .returned (HV em) ∧ Below w.heap.size w w' := by
  have R := hide hr
  obtain ⟨a, cp, rfl⟩ := hr.slice
  clear hr
  have HT := hide hT
  clear hT
  obtain ⟨n, HN⟩ : ∃ n, Hid (L.length = n) := ⟨_, rfl⟩
  rw [HN.out] at R hn ⊢
  obtain ⟨N, HNw⟩ : ∃ N, Hid (w.heap.size = N) := ⟨_, rfl⟩
  have HNT : Hid (2 ≤ N) := (show _ by rw [← HNw.out]; exact HT.out.size)
  go_enter Tryd.func17, Tryd.ntmps17
  go_upto_region 1 with fail
  obtain ⟨w0, hw0⟩ : ∃ z, z = (w.alloc (.cells [.int .i64 s, .slice a n cp].toArray 25 (0, 0))).alloc (.cells (By zh.1).toArray 30 (0, 0)) := ⟨_, rfl⟩
  change Code.wp _ _ _ _ ((w.alloc (.cells [.int .i64 s, .slice a n cp].toArray 25 (0, 0))).alloc (.cells (By zh.1).toArray 30 (0, 0)))
  rw [← hw0, HNw.out]
  obtain ⟨b0, b1, ln⟩ := boxes2 HNw hw0
  have B0 := hide b0
  have B1 := hide b1
  have LN := hide ln
  have c0 : w0.cell? ⟨N, 0, none⟩ = some (.int .i64 s) := b0.cell (j := 0) rfl
  have r0 := R.out.kept (by rw [HNw.out]; exact ln)
  have CG := good_any s (.slice a n cp) L h1 w0 r0
  rw [HN.out] at CG
  clear hw0 b0 b1 ln r0
  by_cases h0 : s = 0
  · subst h0
    go_wp2_with fail
    refine (hempty_any _ (HT.out.kept (LN.out.mono HNT.out))).mono ?_
    rintro e w1 ⟨rfl, hb1⟩
    have O1 := hide (B1.out.kept hb1)
    have L1 : Hid (Below N w w1) := LN.out.trans (hb1.mono (Nat.le_of_lt B0.out.lt))
    clear hb1
    go_wp2_with (first
      | (refine wpList_store_blk rfl 30 _ _ rfl (N + 1) (By zh.1) (By em.1) 30 rfl rfl O1.out (by rw [By_len, By_len]) (Tryd.sizeH em) (By_one _) ?_; intro w2 hb2 hu2)
      | fail)
    refine bodyPost_ret (ret_hash rfl _ _ (N + 1) em rfl hb2) rfl ⟨rfl, ?_⟩
    rw [HNw.out]
    exact L1.out.trans (hu2.below (by omega) (by have := O1.out.lt; omega))
  · have hg : goodB s n = false := hn.resolve_left h0
    have q0 : (s == 0) = false := by simpa using h0
    rw [hg] at CG
    go_wp2_with (first
      | (refine wpList_load_w9 rfl 25 _ rfl N 0 rfl [.int .i64 s, .slice a n cp] _ B0.out.range0 Tryd.underlying25 rfl Tryd.sizeP ?_)
      | fail)
    refine CG.mono ?_
    rintro e w1 ⟨rfl, hb1⟩
    have O1 := hide (B1.out.kept hb1)
    have L1 : Hid (Below N w w1) := LN.out.trans (hb1.mono (Nat.le_of_lt B0.out.lt))
    clear hb1 CG
    go_wp2_with fail
    refine (hempty_any _ (HT.out.kept (L1.out.mono HNT.out))).mono ?_
    rintro e w2 ⟨rfl, hb2⟩
    have O2 := hide (O1.out.kept hb2)
    have L2 : Hid (Below N w w2) := L1.out.trans (hb2.mono (Nat.le_trans (by omega) (Nat.le_of_lt O1.out.lt)))
    clear hb2
    go_wp2_with (first
      | (refine wpList_store_blk rfl 30 _ _ rfl (N + 1) (By zh.1) (By em.1) 30 rfl rfl O2.out (by rw [By_len, By_len]) (Tryd.sizeH em) (By_one _) ?_; intro w3 hb3 hu3)
      | fail)
    refine bodyPost_ret (ret_hash rfl _ _ (N + 1) em rfl hb3) rfl ⟨rfl, ?_⟩
    rw [HNw.out]
    exact L2.out.trans (hu3.below (by omega) (by have := O2.out.lt; omega))
theorem hbackward_any (a : Option Addr) (n cap : Nat) (w : World) : Calls Tryd.prog 28 #[.slice a n cap] w fun e w' => e = .returned (.func (.func 34) #[] #[.pointer (some ⟨w.heap.size, 0, none⟩)]) ∧ w' = w.alloc (.cells #[.slice a n cap] 22) := by
  go_enter Tryd.func28, Tryd.ntmps28
  go_wp2
  go_ret
  exact ⟨rfl, rfl⟩
/-- What is kept while peaks are joined. -/
structure JI (w4 : World) (N E n : Nat) (L : List Hs) (pre : List (Nat × Hs)) (W : World) : Prop where
  x : Blk W E 30 (By (joined nd em (L.drop (n - 1 - pre.length))).1)
  r : Blk W (N + 1) 30 (By zh.1)
  c : Chg (fun k => k = E ∨ w4.heap.size ≤ k) w4 W
theorem JI.chg {w4 : World} {N E n : Nat} {L : List Hs} {pre : List (Nat × Hs)} {W W' : World} (h : JI w4 N E n L pre W) {G : Nat → Prop} (hc : Chg G W W') (hG : ∀ k, k < w4.heap.size → ¬ G k) (hN : N + 1 < w4.heap.size) (hE : E < w4.heap.size) : JI w4 N E n L pre W' :=
  ⟨h.x.chg hc (hG _ hE), h.r.chg hc (hG _ hN), h.c.then hc (fun i hi hg => absurd hg (hG i hi))⟩
theorem joined_drop (L : List Hs) (r : Nat) (h : r + 1 < L.length) : joined nd em (L.drop r) = nd L[r] (joined nd em (L.drop (r + 1))) := by
  rw [List.drop_eq_getElem_cons (by omega : r < L.length), joined_cons nd em _ (by intro e; have := congrArg List.length e; rw [List.length_drop] at this; simp at this; omega)]
set_option maxHeartbeats 4000000 in
set_option maxRecDepth 100000 in
theorem proot_some (s : Int) (t : Value) (L : List Hs) (h1 : s ≤ 9223372036854775807) (hs0 : ¬ s = 0) (hg : goodB s L.length = true) (w : World) (hT : Tabs w) (hr : RdG HE w t L) :
    Calls Tryd.prog 17 #[.agg #[.int .i64 s, t]] w fun e w' => e = .returned (HV (joined nd em L)) ∧ Below w.heap.size w w' := by
  obtain ⟨N0, -⟩ : ∃ n : Nat, True := ⟨9, trivial⟩
  have R := hide hr
  have hcap := hr.cap'
  obtain ⟨a, cp, rfl⟩ := hr.slice
  have hcp := hr.cap
  have hpos : 0 < L.length ∧ L.length ≤ 63 := by
    unfold goodB at hg
    simp only [Bool.and_eq_true, decide_eq_true_eq] at hg
    rw [hg.2]
    exact ⟨bits_pos (by omega) (by omega), bits_le _ _⟩
  clear hr
  have HT := hide hT
  clear hT
  obtain ⟨n, HN⟩ : ∃ n, Hid (L.length = n) := ⟨_, rfl⟩
  rw [HN.out] at R hg hpos hcap hcp ⊢
  obtain ⟨N, HNw⟩ : ∃ N, Hid (w.heap.size = N) := ⟨_, rfl⟩
  have HNT : Hid (2 ≤ N) := (show _ by rw [← HNw.out]; exact HT.out.size)
  have HG := hide hg
  clear hg
  have q0 : (s == 0) = false := by simpa using hs0
  refine (callsIn_wide (n := N0)).1 ?_
  refine callsIn_of_wp_marks Tryd.func17 rfl trivial ?_ rfl
  simp only [Tryd.ntmps17, List.size_toArray, List.length_cons, List.length_nil, Nat.reduceAdd, Nat.reduceSub, Array.replicate_succ, Array.replicate_zero, List.push_toArray, List.append_toArray, List.nil_append, List.cons_append]
  gi_wp2_with fail
  obtain ⟨w0, hw0⟩ : ∃ z, z = (w.alloc (.cells [.int .i64 s, .slice a n cp].toArray 25 (0, 0))).alloc (.cells (By zh.1).toArray 30 (0, 0)) := ⟨_, rfl⟩
  change Fence.wide.fn _ ∧ _ ∧ CallsIn _ _ _ _ _ ((w.alloc (.cells [.int .i64 s, .slice a n cp].toArray 25 (0, 0))).alloc (.cells (By zh.1).toArray 30 (0, 0))) _
  rw [← hw0, HNw.out]
  obtain ⟨b0, b1, ln⟩ := boxes2 HNw hw0
  have r0 := R.out.kept (by rw [HNw.out]; exact ln)
  have CG := good_any s (.slice a n cp) L h1 w0 r0
  rw [HN.out, HG.out] at CG
  clear hw0
  refine wide_call CG ?_
  clear CG
  rintro e w1 ⟨rfl, hb1⟩
  have B0 := hide (b0.kept hb1)
  have B1 := hide (b1.kept hb1)
  have L1 : Hid (Below N w w1) := ln.trans (hb1.mono (Nat.le_of_lt b0.lt))
  have R1 := hide (r0.kept hb1)
  clear b0 b1 ln r0 hb1
  have c1 : w1.cell? ⟨N, 1, none⟩ = some (.slice a n cp) := B0.out.cell (j := 1) rfl
  obtain ⟨b, off, rfl, hlb9, hx9⟩ := R1.out.nth (by omega)
  have hlL : n - 1 < L.length := by rw [HN.out]; omega
  have hrk : w1.rangeAt b (off + (n - 1) * 32) (By L[n - 1].1) := hx9 (n - 1) hlL
  have HJ0 : Hid (joined nd em (L.drop (n - 1)) = L[n - 1]) := (show _ = _ by
    rw [List.drop_eq_getElem_cons hlL, List.drop_eq_nil_of_le (by rw [HN.out]; omega)]
    rfl)
  generalize L[n - 1] = y at *
  clear hx9
  have en : (n : Int) - 1 = ((n - 1 : Nat) : Int) := by omega
  obtain ⟨m, HM⟩ : ∃ m, Hid (n - 1 = m) := ⟨_, rfl⟩
  have hmn : m < n := by have := HM.out; omega
  rw [HM.out] at en hrk HJ0
  have BE := Blk.new w1 30 (By zh.1)
  obtain ⟨E, HEw⟩ : ∃ E, Hid (w1.heap.size = E) := ⟨_, rfl⟩
  rw [HEw.out] at BE
  have q2 : (m : Int) < (n : Int) := by omega
  have HNE : Hid (N + 1 < E) := (show _ by rw [← HEw.out]; exact B1.out.lt)
  obtain ⟨hs1, hs1r⟩ := slice_G_to (E := HE) (P := Tryd.prog) Tryd.underlying22 Tryd.size30 (some ⟨b, off, none⟩) n cp m (by omega) (by omega)
  have HS1R := hide hs1r
  clear hs1r
  gi_wp2_with (first
    | (refine wpListIn_load_row9 rfl 30 _ rfl b (off + m * 32) rfl (By y.1) _ hrk Tryd.underlying30 rfl (Tryd.sizeH y) ?_)
    | (rw [HEw.out]; refine wpListIn_store_blk rfl 30 _ _ rfl E (By zh.1) (By y.1) 30 rfl rfl BE (by rw [By_len, By_len]) (Tryd.sizeH y) (By_one _) ?_; intro w2 hb2 hu2; have c2 : w2.cell? ⟨N, 1, none⟩ = some (.slice (some ⟨b, off, none⟩) n cp) := ((B0.out.alloc _).but hu2 (by have := HNE.out; omega)).cell (j := 1) rfl)
    | fail)
  have C0 : Hid (Blk w2 N 25 [.int .i64 s, .slice (some ⟨b, off, none⟩) n cp]) := (B0.out.alloc _).but hu2 (by have := HNE.out; omega)
  have C1 : Hid (Blk w2 (N + 1) 30 (By zh.1)) := (B1.out.alloc _).but hu2 (by have := HNE.out; omega)
  have C2 := hide hb2
  have hb12 : Below E w1 w2 := ((Below.refl _ _).alloc (by rw [HEw.out]; exact Nat.le_refl _) _).trans (hu2.below (Nat.le_refl _) (by simp [HEw.out]))
  have L2 : Hid (Below N w w2) := L1.out.trans (hb12.mono (by have := HNE.out; omega))
  have R2 : Hid (RdG HE w2 (.slice (some ⟨b, off, none⟩) n cp) L) := R1.out.kept (by rw [HEw.out]; exact hb12)
  have S2 : Hid (E < w2.heap.size) := hb2.lt
  clear hb2 hu2 hb12 c2 c1 BE hrk
  refine wide_call (hbackward_any _ m cp w2) ?_
  rintro e w4 ⟨rfl, hw4⟩
  obtain ⟨D, HD⟩ : ∃ D, Hid (w2.heap.size = D) := ⟨_, rfl⟩
  rw [HD.out] at S2 ⊢
  have G4 : Hid (Below D w2 w4) := (show Below _ _ _ by rw [hw4]; exact (Below.refl _ _).alloc (by rw [HD.out]; exact Nat.le_refl _) _)
  have B4x : Hid (Blk w4 D 22 [.slice (some ⟨b, off, none⟩) m cp]) := (show Blk _ _ _ _ by rw [hw4, ← HD.out]; exact Blk.new w2 22 [.slice (some ⟨b, off, none⟩) m cp])
  have S4 : Hid (w4.heap.size = D + 1) := (show _ = _ by rw [hw4]; simp [HD.out])
  clear hw4
  have G4' : Hid (Below w2.heap.size w2 w4) := (show Below _ _ _ by rw [HD.out]; exact G4.out)
  have E1 := hide (C1.out.kept G4'.out)
  have E2 := hide (C2.out.kept G4'.out)
  have R4 := hide (R2.out.kept G4'.out)
  have RT4 : Hid (RdG HE w4 (.slice (some ⟨b, off, none⟩) m cp) (L.take m)) := HS1R.out _ _ R4.out
  have HTM : Hid ((L.take m).length = m) := (show _ = _ by rw [List.length_take, HN.out]; omega)
  have L4 : Hid (Below N w w4) := L2.out.trans (G4.out.mono (by have := HNE.out; have := S2.out; omega))
  have T4 : Hid (Tabs w4) := HT.out.kept (L4.out.mono HNT.out)
  gi_wp2_with fail
  refine wp_ranged3 (n := N0) (gf := 34) (lb := #[.pointer (some ⟨D, 0, none⟩)]) rfl (enters_of Tryd.func34 (by kernel_rfl) rfl) (encs := bwV) (fun _ => rfl) (R := bwR (L.take m)) (S := fun xs => xs.length = (L.take m).length) (JI w4 N E n L) (fun _ _ _ => False) ?ip (fun _ _ _ _ _ _ _ _ h => h) ?ib (fun _ _ _ _ h _ => h) (fun _ _ _ _ _ _ _ _ h => h) (fun _ _ _ _ h _ => h) ?h0 (G := fun k => k = E ∨ w4.heap.size ≤ k) (fun k hk => .inr hk)
    (backward1_hands (N0 - 1) D (some ⟨b, off, none⟩) cp (L.take m) w4 ?c1 ?c2 ?c3 ?c4 ?c5 ?c6)
    (fun z h => { tmps := #[.agg #[.int .i64 s, .slice (some ⟨b, off, none⟩) n cp], .pointer (some ⟨N, 0, none⟩), .pointer (some ⟨N + 1, 0, none⟩), .int .i64 (m : Int), .pointer (some ⟨E, 0, none⟩), undef, .pointer (some ⟨h, 0, none⟩), .pointer (some ⟨N, 0, none⟩), .int .i64 s, .bool false, .bool false, .agg #[.int .i64 s, .slice (some ⟨b, off, none⟩) n cp], .bool true, .bool false, .bool false, undef, .pointer (some ⟨N, 1, none⟩), .slice (some ⟨b, off, none⟩) n cp, .int .i64 (n : Int), .int .i64 (m : Int), .pointer (some ⟨N, 1, none⟩), .slice (some ⟨b, off, none⟩) n cp, .int .i64 (m : Int), .pointer (some ⟨b, off + m * 32, none⟩), .agg (By y.1).toArray, .pointer (some ⟨N, 1, none⟩), .slice (some ⟨b, off, none⟩) n cp, .int .i64 (m : Int), .slice (some ⟨b, off, none⟩) m cp, .func (.func 34) #[] #[.pointer (some ⟨D, 0, none⟩)], .int .i64 (z.1 : Int), HV z.2, undef, undef, undef, undef], defers := [] }) (fun z h W => Blk W h 30 (By z.2.1)) ?ap ?assign ?body ?done (fun _ _ _ _ _ h _ => h.elim)
  case c1 => rw [HTM.out]; exact B4x.out.cell rfl
  case c2 => exact B4x.out.lt
  case c3 => rw [HTM.out]; exact RT4.out
  case c4 => rw [HTM.out]; omega
  case c5 =>
    rintro (h | h)
    · have := S2.out; omega
    · have := S4.out; omega
  case c6 =>
    rw [HTM.out]
    intro b' hb' h
    have hlt : b' < w1.heap.size := by
      obtain ⟨o', n', c', e', hp'⟩ := hb'
      simp only [Value.slice.injEq, Option.some.injEq, Addr.mk.injEq, and_true] at e'
      rw [← e'.1.1]; exact hlb9
    rw [HEw.out] at hlt
    rcases h with h | h
    · omega
    · have := S4.out; have := S2.out; omega
  case ip =>
    intro pre W l r o hl hW hI
    exact hI.chg (chg_put (G := fun k => k = l) rfl o) (fun k hk e => by subst e; omega) (by have := S4.out; have := S2.out; have := HNE.out; omega) (by have := S4.out; have := S2.out; omega)
  case ib =>
    intro pre X Y hI hb
    exact hI.chg (G := fun _ => False) (Chg.of_below hb) (fun _ _ => id) (by have := S4.out; have := S2.out; have := HNE.out; omega) (by have := S4.out; have := S2.out; omega)
  case h0 => exact ⟨by rw [List.length_nil, Nat.sub_zero, HM.out, HJ0.out]; exact E2.out, E1.out, Chg.refl _ _⟩
  case ap =>
    intro z h W l r o hl hW hB
    have hne : h ≠ l := fun e => by
      subst e
      have := hB.symm.trans hW
      simp at this
    exact (World.putObj_heap_other (fun e => hne e)).trans hB
  case assign =>
    intro l z W K' hle hK
    have BW := Blk.new W 30 (By zh.1)
    simp only [bwV]
    gi_wp2_with (first
      | (refine wpListIn_store_blk rfl 30 _ _ rfl W.heap.size (By zh.1) (By z.2.1) 30 rfl rfl BW (by rw [By_len, By_len]) (Tryd.sizeH z.2) (By_one _) ?_; intro w5 hb5 hu5)
      | fail)
    exact hK w5 (((Below.refl _ _).alloc (Nat.le_refl _) _).trans (hu5.below (Nat.le_refl _) (by simp))) hb5
  case body =>
    rintro l pre ⟨r, key⟩ h W hle hlh hI hR hA
    obtain ⟨ix, ir, ic⟩ := hI
    obtain ⟨hR1, hR2⟩ := hR
    rw [HTM.out] at hR1
    simp only at hR1 hR2 hA
    have hrL : r + 1 < L.length := by rw [HN.out]; have := HM.out; omega
    have hkey : L[r] = key := by
      rw [List.getElem?_take_of_lt (by omega), List.getElem?_eq_getElem (by omega)] at hR2
      exact Option.some.inj hR2
    have HJ := hide (joined_drop L r hrL)
    rw [hkey] at HJ
    have hrr : n - 1 - pre.length = r + 1 := by rw [HM.out]; omega
    rw [hrr] at ix
    have hpl : n - 1 - (pre ++ [((r, key) : Nat × Hs)]).length = r := by rw [List.length_append, List.length_singleton, HM.out]; omega
    have HPL := hide hpl
    generalize joined nd em (L.drop (r + 1)) = x at *
    have IX := hide ix
    have IR := hide ir
    have IC := hide ic
    have HA := hide hA
    have TW : Hid (Tabs W) := T4.out.kept (ic.below (by have := S4.out; have := S2.out; have := HNE.out; have := HNT.out; omega) (fun k hk h => by
      rcases h with h | h
      · have := HNE.out; have := HNT.out; omega
      · have := S4.out; have := S2.out; have := HNE.out; have := HNT.out; omega))
    clear ix ir ic hA hR1 hR2 hkey hrr hpl
    gi_wp2_with (first
      | (refine wpListIn_load_row9 rfl 30 _ rfl h 0 rfl (By key.1) _ HA.out.range0 Tryd.underlying30 rfl (Tryd.sizeH key) ?_)
      | (refine wpListIn_load_row9 rfl 30 _ rfl E 0 rfl (By x.1) _ IX.out.range0 Tryd.underlying30 rfl (Tryd.sizeH x) ?_)
      | fail)
    refine wide_call (hnode_any key x W TW.out) ?_
    rintro e w5 ⟨rfl, hb5⟩
    have IX5 := hide (IX.out.kept hb5)
    have IR5 := hide (IR.out.kept hb5)
    have HB5 := hide hb5
    clear hb5
    gi_wp2_with (first
      | (refine wpListIn_store_blk rfl 30 _ _ rfl E (By x.1) (By (nd key x).1) 30 rfl rfl IX5.out (by rw [By_len, By_len]) (Tryd.sizeH _) (By_one _) ?_; intro w6 hb6 hu6)
      | fail)
    have hc6 : Chg (fun k => k = E) W w6 := (Chg.of_below HB5.out).trans (Chg.of_but hu6 rfl)
    refine ⟨keeps_chg hc6 (fun k o hk ho => ?_), hc6.mono (fun i _ h => .inl h), ?_⟩
    · subst hk
      have := IX.out.symm.trans ho
      cases this
      rfl
    · exact ⟨by rw [HPL.out, HJ.out]; exact hb6, IR5.out.but hu6 (by have := HNE.out; omega), IC.out.then hc6 (fun i _ h => .inl h)⟩
  case done =>
    rintro Dd xs W hDd hS hI hD
    obtain ⟨ix, ir, ic⟩ := hI
    rw [HTM.out] at hS
    rw [show n - 1 - xs.length = 0 by rw [HM.out]; omega, List.drop_zero] at ix
    obtain ⟨x, HX⟩ : ∃ x, Hid (joined nd em L = x) := ⟨_, rfl⟩
    rw [HX.out] at ix
    have IX := hide ix
    have IR := hide ir
    have hs4 := S4.out
    have hs2 := S2.out
    have hne := HNE.out
    gi_wp2_with (first
      | (refine wpListIn_load_row9 rfl 30 _ rfl E 0 rfl (By x.1) _ IX.out.range0 Tryd.underlying30 rfl (Tryd.sizeH x) ?_)
      | (refine wpListIn_store_blk rfl 30 _ _ rfl (N + 1) (By zh.1) (By x.1) 30 rfl rfl IR.out (by rw [By_len, By_len]) (Tryd.sizeH x) (By_one _) ?_; intro w6 hb6 hu6)
      | fail)
    have hD6 : w6.heap[Dd]? = some (.deferred (some [])) := (hu6.block Dd ((Array.getElem?_eq_some_iff.1 hD).1) (by omega)).trans hD
    refine ⟨by simp, .inl ⟨_, _, rfl, run_takeDeferred hD6, ?_⟩⟩
    have hp := chg_put (G := fun k => k = Dd) (W := w6) (l := Dd) rfl (.deferred none)
    refine ⟨_, ret_hash rfl _ _ (N + 1) x rfl (hb6.chg hp (by omega)), by rw [HX.out], ?_⟩
    rw [HNw.out]
    have h5 : Chg (fun k => N ≤ k) w4 W := ic.mono (fun i _ h => by rcases h with h | h <;> omega)
    have h6 : Chg (fun k => N ≤ k) W w6 := Chg.of_but hu6 (by show N ≤ N + 1; omega)
    have h7 := (h5.trans h6).trans (hp.mono (fun i _ h => by subst h; show N ≤ i; omega))
    exact L4.out.trans (h7.below (by omega) (fun k hk h => by omega))
theorem proot_any (s : Int) (t : Value) (L : List Hs) (h1 : s ≤ 9223372036854775807) (w : World) (hT : Tabs w) (hr : RdG HE w t L) :
    Calls Tryd.prog 17 #[.agg #[.int .i64 s, t]] w fun e w' => e = .returned (HV (rootP s L)) ∧ Below w.heap.size w w' := by
  unfold rootP
  by_cases h : s = 0 ∨ goodB s L.length = false
  · rw [if_pos h]
    exact proot_none s t L h1 h w hT hr
  · rw [if_neg h]
    exact proot_some s t L h1 (fun e => h (.inl e)) (by cases hg : goodB s L.length with | true => rfl | false => exact absurd (.inr hg) h) w hT hr
#print axioms proot_any
end Go.Proofs.YtinlpaabmojmkaaDoor
