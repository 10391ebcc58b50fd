/-
  pack.GetList, indentureref01.GetList: what the calls do.
-/
import Derived.Test.YtcfakmjkbgcbhaaNext
namespace Go.Proofs.Ytcfakmjkbgcbhaa
open Go.RowKit

theorem Try.info9 : (Try.prog.info? 9).map (fun i => (i.zero, i.size, i.bytes)) = some (some (.string ByteArray.empty), 1, 16) := by kernel_rfl

/-- The slice value v, of a row from block B on, is the call's own and holds the texts ts. -/
def OwnS (w : World) (B : Nat) (v : Value) (ts : List (List UInt8)) : Prop := w.ownsRow B 9 1 v ts.length (ts.map fun t => Value.string ⟨t.toArray⟩)
theorem OwnS_nil (w : World) (B : Nat) : OwnS w B (.slice none 0 0) [] := World.ownsRow_nil w B 9 1

theorem OwnS.kept {w w' : World} {B : Nat} {v : Value} {ts : List (List UInt8)} (h : OwnS w B v ts) (hb : Below w.heap.size w w') : OwnS w' B v ts := by
  obtain ⟨h1, h2⟩ := h
  refine ⟨h1, ?_⟩
  rcases h2 with h2 | ⟨g, cap, cur, hv, hg, hh, r⟩
  · exact Or.inl h2
  · have hlt : g < w.heap.size := (Array.getElem?_eq_some_iff.1 hh).1
    exact Or.inr ⟨g, cap, cur, hv, hg, by rw [hb.block g hlt]; exact hh, r⟩
theorem OwnS.setCell {w : World} {B : Nat} {v : Value} {ts : List (List UInt8)} (h : OwnS w B v ts) {p : Addr} (hp : p.block < B) (u : Value) : OwnS (w.setCell p u) B v ts := ownsRow_setCell_below h hp u
theorem OwnS.alloc {w : World} {B : Nat} {v : Value} {ts : List (List UInt8)} (h : OwnS w B v ts) (o : Obj) : OwnS (w.alloc o) B v ts := World.ownsRow.alloc h o

theorem OwnS.mono {w : World} {B B' : Nat} {v : Value} {ts : List (List UInt8)} (h : OwnS w B v ts) (hB : B' ≤ B) : OwnS w B' v ts := by
  obtain ⟨h1, h2⟩ := h
  refine ⟨h1, ?_⟩
  rcases h2 with h2 | ⟨g, cap, cur, hv, hg, r⟩
  · exact Or.inl h2
  · exact Or.inr ⟨g, cap, cur, hv, Nat.le_trans hB hg, r⟩

/-- The three variables that the closure holds. -/
structure Sit (H A : Nat) (w : World) (sv : Value) (m : Int) (x : Nat) : Prop where
  hb : w.heap[H]? = some (.cells #[sv] 22 (0, 0))
  hm : w.heap[H + 1]? = some (.cells #[.int .i64 m] 3 (0, 0))
  ha : w.heap[A]? = some (.cells #[.int .i64 (x : Int)] 3 (0, 0))
  lt : H + 2 ≤ A
theorem Sit.below {H A : Nat} {w w' : World} {sv : Value} {m : Int} {x : Nat} (h : Sit H A w sv m x) (hb : Below (A + 1) w w') : Sit H A w' sv m x := by
  have := h.lt
  exact ⟨(hb.block H (by omega)).trans h.hb, (hb.block (H + 1) (by omega)).trans h.hm, (hb.block A (by omega)).trans h.ha, h.lt⟩
theorem Sit.set {H A : Nat} {w : World} {sv : Value} {m : Int} {x : Nat} (h : Sit H A w sv m x) (y : Nat) : Sit H A (w.setCell ⟨A, 0, none⟩ (.int .i64 (y : Int))) sv m y := by
  have := h.lt
  exact ⟨(heap_setCell_other _ _ _ _ (by simp; omega)).trans h.hb, (heap_setCell_other _ _ _ _ (by simp; omega)).trans h.hm, one_setCell h.ha, h.lt⟩

/-- A new slice of one text, to be appended. -/
theorem src_one (w : World) (t : List UInt8) : Src Try.prog 1 36 (.slice (some ⟨w.heap.size, 0, none⟩) 1 1) 1 [.string ⟨t.toArray⟩] (w.alloc (.cells #[.string ⟨t.toArray⟩] 9 (0, 0))) := by
  refine Src.ofSlice _ Try.underlying36 _ 1 1 _ rfl (fun j u hj => ?_) (fun u hu => ?_)
  · rw [Addr.add_lit, cell_of_row _ _ _ _ 9 (0, 0) (heap_alloc_new w _)]
    simpa using hj
  · simp at hu
    subst hu
    rfl

set_option maxRecDepth 100000 in
set_option maxHeartbeats 1000000 in
theorem getList_no (v : Value) (l : List UInt8) (c m : Int) (w : World) (h : Rd w v l) (hl : l.length ≤ 100000000000) (hno : gn l = (0, 0, false)) :
    Calls Try.prog 23 #[v, .int .i64 c, .int .i64 m] w fun e w' => e = .returned (.tuple #[.slice none 0 0, .int .i64 0, .bool false]) ∧ Below w.heap.size w w' := by
  have h0 := h
  obtain ⟨a, cap, rfl, -⟩ := h
  go_enter Try.func23, Try.ntmps23
  go_wp2_with fail
  refine (getNum_any _ l _ (h0.kept (((Below.refl _ _).alloc (Nat.le_refl _) _).alloc (by simp) _)) (by omega)).mono ?_
  rw [hno]
  rintro e w1 ⟨rfl, hb1⟩
  go_wp2_with fail
  go_ret3
  have hb2 : Below w.heap.size w w1 := (((Below.refl _ _).alloc (Nat.le_refl _) _).alloc (by simp) _).trans (hb1.mono (by simp; omega))
  exact ⟨rfl, hb2.alloc hb2.size _⟩

set_option maxRecDepth 100000 in
set_option maxHeartbeats 1000000 in
theorem getList_much (v : Value) (l : List UInt8) (c m : Int) (n k : Nat) (w : World) (h : Rd w v l) (hl : l.length ≤ 100000000000) (hc : (Lit.int .i64 c).wf = true) (hg : gn l = (n, k, true)) (hn : ¬ n ≤ c.toNat) :
    Calls Try.prog 23 #[v, .int .i64 c, .int .i64 m] w fun e w' => e = .returned (.tuple #[.slice none 0 0, .int .i64 0, .bool false]) ∧ Below w.heap.size w w' := by
  have h0 := h
  obtain ⟨a, cap, rfl, -⟩ := h
  have hn' : ¬ (n : Int) ≤ (c.toNat : Int) := by omega
  go_enter Try.func23, Try.ntmps23
  go_wp2_with fail
  refine (getNum_any _ l _ (h0.kept (((Below.refl _ _).alloc (Nat.le_refl _) _).alloc (by simp) _)) (by omega)).mono ?_
  rw [hg]
  rintro e w1 ⟨rfl, hb1⟩
  go_wp2_with fail
  refine (limit_any _ _ hc).mono ?_
  rintro e w2 ⟨rfl, rfl⟩
  go_wp2_with fail
  go_ret3
  have hb2 : Below w.heap.size w w1 := (((Below.refl _ _).alloc (Nat.le_refl _) _).alloc (by simp) _).trans (hb1.mono (by simp; omega))
  exact ⟨rfl, hb2.alloc hb2.size _⟩

set_option maxRecDepth 100000 in
set_option maxHeartbeats 2000000 in
theorem getList_loop (v : Value) (l : List UInt8) (c m : Int) (n k : Nat) (w : World) (h : Rd w v l) (hl : l.length ≤ 100000000000) (hc : (Lit.int .i64 c).wf = true) (hmw : (Lit.int .i64 m).wf = true) (hg : gn l = (n, k, true)) (hn : n ≤ c.toNat) :
    Calls Try.prog 23 #[v, .int .i64 c, .int .i64 m] w fun e w' => ∃ v' ts x ok, e = .returned (.tuple #[v', .int .i64 (x : Nat), .bool ok]) ∧ OwnS w' w.heap.size v' ts ∧ gL l c.toNat m.toNat = (ts, x, ok) ∧ Below w.heap.size w w' := by
  obtain ⟨hk1, hk9, hkl, hn8, -⟩ := gn_ok hg
  have h0 := h
  obtain ⟨a, cap, rfl, hcap, -, -, h4⟩ := h
  obtain ⟨b, off, rfl, hblt, -⟩ := h4 (by omega)
  clear h4
  have hn' : (n : Int) ≤ (c.toNat : Int) := by omega
  have HG : Hid (gn l = (n, k, true)) := hg
  have HN8 : Hid (n < 256 ^ 8) := hn8
  obtain ⟨i0, hi, hz0, hz1, hz2⟩ := info_parts Try.info9
  go_enter Try.func23, Try.ntmps23
  go_wp2_with fail
  refine (getNum_any _ l _ (h0.kept (((Below.refl _ _).alloc (Nat.le_refl _) _).alloc (by simp) _)) (by omega)).mono ?_
  rw [hg]
  rintro e w1 ⟨rfl, hb1⟩
  have hs1 : w.heap.size + 2 ≤ w1.heap.size := by have := hb1.size; simpa using this
  have hb2 : Below w.heap.size w w1 := (((Below.refl _ _).alloc (Nat.le_refl _) _).alloc (by simp) _).trans (hb1.mono (by simp; omega))
  clear hg hn8 hn
  go_wp2_with fail
  refine (limit_any _ _ hc).mono ?_
  rintro e w2 ⟨rfl, rfl⟩
  go_wp2_with fail
  have hst : Sit w.heap.size w1.heap.size (w1.alloc (.cells #[.int .i64 (k : Int)] 3 (0, 0))) (.slice (some ⟨b, off, none⟩) l.length cap) m k := by
    refine ⟨?_, ?_, heap_alloc_new w1 _, hs1⟩
    · rw [Below.heap_alloc _ _ _ (by omega), hb1.block _ (by simp; omega)]
      exact (Below.heap_alloc _ _ _ (by simp)).trans (heap_alloc_new w _)
    · rw [Below.heap_alloc _ _ _ (by omega), hb1.block _ (by simp)]
      exact two_new w _ _
  have hb3 : Below w.heap.size w (w1.alloc (.cells #[.int .i64 (k : Int)] 3 (0, 0))) := hb2.alloc hb2.size _
  clear hb1 hb2
  go_loopw [13, 32] (fun y z wr => ∃ (i x : Nat) (ts : List (List UInt8)), i ≤ n ∧ z = .int .u64 i ∧ Hid (gl l m.toNat k i = some (ts, x)) ∧ Hid (OwnS wr (w1.heap.size + 1) y ts) ∧
      Hid (Sit w.heap.size w1.heap.size wr (.slice (some ⟨b, off, none⟩) l.length cap) m x) ∧ Below w.heap.size w wr)
    (fun _ z _ => n - (intOf z).toNat)
  case atStart => exact ⟨0, k, [], Nat.zero_le _, rfl, rfl, OwnS_nil _ _, hst, hb3⟩
  case round =>
    clear hst hb3
    obtain ⟨i, x, ts, hin, rfl, HL, HO, HS, hbel⟩ := hrel
    obtain ⟨hx1, hx2, hx3, hx4, -, -⟩ := gl_ok hkl hk1 HL.out
    have hA := HS.out.lt
    have cb := cell_of_one HS.out.hb
    have cm := cell_of_one HS.out.hm
    have ca := cell_of_one HS.out.ha
    have ff := free_of_one HS.out.ha
    have hAl := lt_of_block HS.out.ha
    by_cases hlt : i < n
    · have hlt' : (i : Int) < n := by omega
      obtain ⟨X, Y, Z, HGS⟩ : ∃ X Y Z, Hid (gs (l.drop x) m.toNat = (X, Y, Z)) := ⟨_, _, _, rfl⟩
      cases Z with
      | false =>
        go_wp2_with fail
        refine (next_any _ _ _ b off cap x l m _ X Y false HGS cb ca cm ff hAl (h0.kept hbel) hx1 hcap (by omega) hmw).mono ?_
        rintro e w5 ⟨w4, hb4, rfl, rfl⟩
        go_wp2_with fail
        go_ret3
        have hgs0 : gs (l.drop x) m.toNat = ([], 0, false) := by
          rcases gs_cases (l.drop x) m.toNat with hh | ⟨t, kk, hh, -⟩
          · exact hh
          · rw [HGS.out] at hh; simp at hh
        refine ⟨_, [], 0, false, rfl, OwnS_nil _ _, gL_none HG.out (gl_none (gl_no HL.out hgs0) n (by omega)), ?_⟩
        exact (hbel.trans (hb4.mono hbel.size)).setCell (by simp; omega) _
      | true =>
        go_wp2_with fail
        refine (next_any _ _ _ b off cap x l m _ X Y true HGS cb ca cm ff hAl (h0.kept hbel) hx1 hcap (by omega) hmw).mono ?_
        rintro e w5 ⟨w4, hb4, rfl, rfl⟩
        have HS5 : Hid (Sit w.heap.size w1.heap.size (w4.setCell ⟨w1.heap.size, 0, none⟩ (.int .i64 ((x : Int) + Y))) (.slice (some ⟨b, off, none⟩) l.length cap) m (x + Y)) := (HS.out.below (hb4.mono (by omega))).set (x + Y)
        have HO5 : Hid (OwnS (w4.setCell ⟨w1.heap.size, 0, none⟩ (.int .i64 ((x : Int) + Y))) (w1.heap.size + 1) _ ts) := ((show OwnS _ _ _ _ from HO.out).kept hb4).setCell (by simp) _
        have hb5 : Below w.heap.size w (w4.setCell ⟨w1.heap.size, 0, none⟩ (.int .i64 ((x : Int) + Y))) := (hbel.trans (hb4.mono hbel.size)).setCell (by simp; omega) _
        have HL5 : Hid (gl l m.toNat k (i + 1) = some (ts ++ [X], x + Y)) := gl_yes HL.out HGS.out
        have hsz5 : w1.heap.size + 1 ≤ (w4.setCell ⟨w1.heap.size, 0, none⟩ (.int .i64 ((x : Int) + Y))).heap.size := lt_of_block HS5.out.ha
        generalize (w4.setCell ⟨w1.heap.size, 0, none⟩ (.int .i64 ((x : Int) + Y))) = w6 at *
        clear cb cm ca ff hAl hb4
        go_wp2_with (at_builtin; refine wpList_append_mine _ rfl (.tmp 41) (.tmp 43) 36 36 rfl (w1.heap.size + 1) 9 i0 (.string ByteArray.empty) 1 16 Try.underlying36 hi hz0 hz1 hz2 rfl _ ts.length _ rfl (by exact HO5.out.alloc _) _ 1 [.string ⟨X.toArray⟩] rfl (by exact src_one _ _) (by simp only [maxLen]; omega) (by omega) (by simp; omega) ?_; intro v7 w7 ho7 hg7)
        have hb6 : Below (w1.heap.size + 1) w6 w7 := ((Below.refl _ _).alloc hsz5 _).trans (below_of_grown _ (HO5.out.alloc _) hg7 (by simp; omega))
        go_roundw
        case rel =>
          refine ⟨i + 1, x + Y, ts ++ [X], by omega, by go_num, HL5, ?_, HS5.out.below hb6, hb5.trans (hb6.mono (by omega))⟩
          show OwnS _ _ _ _
          unfold OwnS
          rw [List.length_append, List.map_append]
          exact ho7
        case measure => simp [intOf]; omega
    · obtain rfl : i = n := by omega
      have hlt' : ¬ (i : Int) < i := by omega
      go_wp2_with fail
      go_quiet (fail)
      go_wp2
      go_ret3
      refine ⟨_, ts, x, true, rfl, ?_, gL_yes HG.out (by omega) HL.out, hbel.trans (below_drewN _ _ _)⟩
      exact (OwnS.kept HO.out (below_drewN _ _ _)).mono (by omega)

theorem getList_any (v : Value) (l : List UInt8) (c m : Int) (w : World) (h : Rd w v l) (hl : l.length ≤ 100000000000) (hc : (Lit.int .i64 c).wf = true) (hmw : (Lit.int .i64 m).wf = true) :
    Calls Try.prog 23 #[v, .int .i64 c, .int .i64 m] w fun e w' => ∃ v' ts x ok, e = .returned (.tuple #[v', .int .i64 (x : Nat), .bool ok]) ∧ OwnS w' w.heap.size v' ts ∧ gL l c.toNat m.toNat = (ts, x, ok) ∧ Below w.heap.size w w' := by
  rcases gn_cases l with hg | ⟨n, k, hg⟩
  · refine (getList_no v l c m w h hl hg).mono ?_
    rintro e w' ⟨rfl, hb⟩
    exact ⟨_, [], 0, false, rfl, OwnS_nil _ _, gL_no hg (by simp), hb⟩
  · by_cases hn : n ≤ c.toNat
    · exact getList_loop v l c m n k w h hl hc hmw hg hn
    · refine (getList_much v l c m n k w h hl hc hg hn).mono ?_
      rintro e w' ⟨rfl, hb⟩
      exact ⟨_, [], 0, false, rfl, OwnS_nil _ _, gL_no hg (by simp; omega), hb⟩
#print axioms getList_any
end Go.Proofs.Ytcfakmjkbgcbhaa
