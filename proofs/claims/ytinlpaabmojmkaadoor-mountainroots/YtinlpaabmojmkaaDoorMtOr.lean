/-
  indentureref09.Of: what the call does.
-/
import Derived.Test.YtinlpaabmojmkaaDoorMtAr
import Derived.Test.YtinlpaabmojmkaaDoorMtO
namespace Go.Proofs.YtinlpaabmojmkaaDoor
open Go.RowKit
set_option maxHeartbeats 4000000 in
set_option maxRecDepth 100000 in
theorem nof_any (l : List Hs) (v : Value) (w : World) (hr : RdG HE w v l) (hl : l.length ≤ 1000) :
    Calls Tryd.prog 9 #[v] w fun e w' => ∃ t', e = .returned (.agg #[.int .i64 (l.length : Int), t']) ∧ RdG HE w' t' (topsFrom nd em 63 l) ∧ Below w.heap.size w w' := by
  have R := hide hr
  obtain ⟨a, cp, rfl⟩ := hr.slice
  clear hr
  obtain ⟨n, HN⟩ : ∃ n, Hid (l.length = n) := ⟨_, rfl⟩
  rw [HN.out] at R hl ⊢
  obtain ⟨N, HNw⟩ : ∃ N, Hid (w.heap.size = N) := ⟨_, rfl⟩
  go_enter Tryd.func9, Tryd.ntmps9
  go_upto_region 2 with fail
  obtain ⟨w0, hw0⟩ : ∃ z, z = (w.alloc (.cells [.int .i64 0, .slice none 0 0].toArray 27 (0, 0))).alloc (.cells [.int .i64 0, .slice none 0 0].toArray 27 (0, 0)) := ⟨_, rfl⟩
  try change Code.wp _ _ _ _ ((w.alloc (.cells [.int .i64 0, .slice none 0 0].toArray 27 (0, 0))).alloc (.cells [.int .i64 0, .slice none 0 0].toArray 27 (0, 0)))
  rw [← hw0, HNw.out]
  have B0 : Hid (Blk w0 N 27 [.int .i64 0, .slice none 0 0]) := (show Blk _ _ _ _ by rw [hw0, ← HNw.out]; exact (Blk.new w _ _).alloc _)
  have B1 : Hid (Blk w0 (N + 1) 27 [.int .i64 0, .slice none 0 0]) := (show Blk _ _ _ _ by
    have := Blk.new (w.alloc (.cells [.int .i64 0, .slice none 0 0].toArray 27 (0, 0))) 27 [.int .i64 0, .slice none 0 0]
    rw [show (w.alloc (.cells [.int .i64 0, .slice none 0 0].toArray 27 (0, 0))).heap.size = N + 1 by simp [HNw.out]] at this
    rw [hw0]; exact this)
  have LN : Hid (Below N w w0) := (show Below _ _ _ by rw [hw0]; exact ((Below.refl _ _).alloc (by rw [HNw.out]; exact Nat.le_refl _) _).alloc (by simp [HNw.out]) _)
  clear hw0
  go_wp2_with fail
  go_loopg [9] (n + 1) (fun g z wr => ∃ (i : Nat) (t : Value), i ≤ n ∧ g + i = n + 1 ∧ z = .int .i64 (i : Int) ∧ Hid (Blk wr N 27 [.int .i64 0, .slice none 0 0]) ∧ Hid (Blk wr (N + 1) 27 [.int .i64 (i : Int), t]) ∧ Hid (RdG HE wr t (topsFrom nd em 63 (l.take i))) ∧ Hid (∀ b, InB t b → N + 1 + 1 ≤ b) ∧ Hid (Below N w wr))
  case atStart => exact ⟨0, .slice none 0 0, by omega, by omega, rfl, B0.out, B1.out, (show RdG HE _ _ _ by rw [List.take_zero, tops_nil]; exact RdG_nil _), (show _ from fun b hb => by obtain ⟨_, _, _, e, _⟩ := hb; simp at e), LN.out⟩
  case round =>
    clear B0 B1 LN
    obtain ⟨i, t, hi, hgi, rfl, B0, B1, RT, NT, LN⟩ := hrel
    have R1 : Hid (RdG HE wr (.slice a n cp) l) := R.out.kept (by rw [HNw.out]; exact LN.out)
    by_cases hlt : i < n
    · have q2 : (i : Int) < (n : Int) := by omega
      have hil : i < l.length := by rw [HN.out]; exact hlt
      obtain ⟨b, off, rfl, hlb9, hx9⟩ := R1.out.nth (by omega)
      have hrk : wr.rangeAt b (off + i * 32) (By l[i].1) := hx9 i hil
      have HPL : Hid _ := add_tops (l.take i) l[i] (by rw [List.length_take]; omega)
      rw [show l.take i ++ [l[i]] = l.take (i + 1) by rw [List.take_add_one, List.getElem?_eq_getElem hil, Option.toList_some], show (l.take i).length = i by rw [List.length_take]; omega] at HPL
      generalize l[i] = x at *
      clear hx9
      obtain ⟨M, HMw⟩ : ∃ M, Hid (wr.heap.size = M) := ⟨_, rfl⟩
      go_upto_region 5 with (first
        | (refine wpList_load_mid rfl 30 _ rfl b (off + i * 32) rfl (By x.1) _ hrk Tryd.underlying30 rfl (Tryd.sizeH x) ?_)
        | (refine wpList_store_new rfl 30 _ _ rfl wr _ (By x.1).toArray _ rfl rfl rfl (by simpa using Tryd.sizeH x) (by simp [By_len]) (all_one (By_one _)) ?_)
        | fail)
      obtain ⟨w4, hw4⟩ : ∃ y, y = wr.alloc (.cells (By x.1).toArray 30 (0, 0)) := ⟨_, rfl⟩
      rw [← hw4, HMw.out]
      have D3 : Hid (Blk w4 M 30 (By x.1)) := (show Blk _ _ _ _ by rw [hw4, ← HMw.out]; exact Blk.new wr 30 (By x.1))
      have hb4 : Below wr.heap.size wr w4 := by rw [hw4]; exact (Below.refl _ _).alloc (Nat.le_refl _) _
      have D0 := hide (B0.out.kept hb4)
      have D1 := hide (B1.out.kept hb4)
      have RT4 := hide (RT.out.kept hb4)
      have L4 : Hid (Below N w w4) := LN.out.trans (hb4.mono (Nat.le_of_lt (by have := B1.out.lt; omega)))
      clear hw4 hb4 hrk
      go_wp2_with (first
        | (refine wpList_load_mid rfl 27 _ rfl (N + 1) 0 rfl [.int .i64 (i : Int), t] _ D1.out.range0 Tryd.underlying27 rfl Tryd.sizeQ ?_)
        | (refine wpList_load_mid rfl 30 _ rfl M 0 rfl (By x.1) _ D3.out.range0 Tryd.underlying30 rfl (Tryd.sizeH x) ?_)
        | fail)
      refine (nadd_any (i : Int) t (topsFrom nd em 63 (l.take i)) x (by omega) (by rw [tops_length]; have := bits_le 63 (l.take i).length; omega) w4 RT4.out).mono ?_
      rintro e w5 ⟨t5, rfl, hr5, hn5, hb5⟩
      rw [HPL.out.1, HPL.out.2.2]
      have hr6 : RdG HE w5 t5 (topsFrom nd em 63 (l.take (i + 1))) := by rw [← HPL.out.2.1]; exact hr5
      have hn6 : ∀ b, InB t5 b → N + 1 + 1 ≤ b := fun b hb => Nat.le_trans (by have := D1.out.lt; omega) (hn5 HPL.out.1 b hb)
      have E0 := hide (D0.out.kept hb5)
      have E1 := hide (D1.out.kept hb5)
      have L5 : Hid (Below N w w5) := L4.out.trans (hb5.mono (Nat.le_of_lt (by have := D1.out.lt; omega)))
      have HR6 := hide hr6
      have HN6 := hide hn6
      obtain ⟨a5, c5, ht5⟩ := hr6.slice
      generalize (topsFrom nd em 63 (l.take (i + 1))).length = n5 at ht5
      subst ht5
      clear hr6 hn6 hb5
      go_wp2_with (first
        | (refine wpList_store_blk rfl 27 _ _ rfl (N + 1) _ [.int .i64 ((i : Int) + 1), .slice a5 n5 c5] 27 rfl rfl E1.out rfl Tryd.sizeQ (by simp [Value.oneCell']) ?_; intro w6 hb6 hu6; have E6 := hide hb6; have U6 := hide hu6; clear hb6 hu6)
        | fail)
      go_roundg (gk - 1)
      case measure => omega
      case rel =>
        refine ⟨i + 1, .slice a5 n5 c5, by omega, by omega, by go_num, E0.out.but U6.out (by omega), (show Blk _ _ _ _ by simpa using E6.out), HR6.out.chg (F := fun b => b = N + 1) (Chg.of_but U6.out rfl) (fun b' hb' e => by have := HN6.out b' hb'; omega), HN6.out, L5.out.trans (U6.out.below (by omega) (by have := E1.out.lt; omega))⟩
    · obtain rfl : i = n := by omega
      rw [List.take_of_length_le (by rw [HN.out]; exact Nat.le_refl _)] at RT
      go_wp2_with (first
        | (refine wpList_load_mid rfl 27 _ rfl (N + 1) 0 rfl [.int .i64 (i : Int), t] _ B1.out.range0 Tryd.underlying27 rfl Tryd.sizeQ ?_)
        | (refine wpList_store_blk rfl 27 _ _ rfl N _ [.int .i64 (i : Int), t] 27 rfl rfl B0.out rfl Tryd.sizeQ (by obtain ⟨a5, c5, ht5⟩ := RT.out.slice; rw [ht5]; simp [Value.oneCell']) ?_; intro w6 hb6 hu6)
        | fail)
      refine bodyPost_ret (results_cell_row rfl _ _ N 27 _ (0, 0) _ rfl hb6 Tryd.underlying27 rfl Tryd.sizeQ) rfl ⟨t, rfl, RT.out.chg (F := fun b => b = N) (Chg.of_but hu6 rfl) (fun b' hb' e => by have := NT.out b' hb'; omega), ?_⟩
      rw [HNw.out]
      exact LN.out.trans (hu6.below (Nat.le_refl _) (Nat.le_of_lt B0.out.lt))
#print axioms nof_any
end Go.Proofs.YtinlpaabmojmkaaDoor
