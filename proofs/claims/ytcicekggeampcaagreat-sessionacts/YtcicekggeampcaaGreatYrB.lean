/-
  The document's session: New, may, Close, Put, Drop: what the calls do.
-/
import Derived.Test.YtcicekggeampcaaGreatYrA
namespace Go.Proofs.YtcicekggeampcaaGreat
open Go.RowKit
theorem build_rses (n : Int) : ∀ W : World, (Instr.build 47 #[(0, .int .i64 n)]).run Tryz.prog W = .ok (.agg (YC n none).toArray) W := fun W => by kernel_rfl
theorem Tryz.size47 : (Tryz.prog.info? 47).map (·.size) = some 7 := by kernel_rfl
set_option maxRecDepth 100000 in
theorem yNew_any (w : World) (id : Int) (h1 : 1 ≤ id) (h8 : id ≤ 8) : Calls Tryz.prog 7 #[.int .i64 id] w fun e w' => ∃ Y, e = .returned (PT Y) ∧ YAt w' w.heap.size Y id none ∧ Below w.heap.size w w' := by
  have q1 : ¬ id < 1 := by omega
  have q2 : ¬ 8 < id := by omega
  go_enter Tryz.func7, Tryz.ntmps7
  go_wp2
  go_ret
  exact ⟨_, rfl, ⟨Blk.new w 47 (YC id none), Nat.le_refl _, fun _ _ e => by cases e⟩, (Below.refl _ _).alloc (Nat.le_refl _) _⟩
set_option maxRecDepth 100000 in
theorem yNew_no (w : World) (id : Int) (h : id < 1 ∨ 8 < id) : Calls Tryz.prog 7 #[.int .i64 id] w fun e w' => e = .returned (.pointer none) ∧ w' = w := by
  by_cases q1 : id < 1
  · go_enter Tryz.func7, Tryz.ntmps7
    go_wp2
    go_ret
    exact ⟨rfl, rfl⟩
  · have q2 : 8 < id := by omega
    go_enter Tryz.func7, Tryz.ntmps7
    go_wp2
    go_ret
    exact ⟨rfl, rfl⟩
set_option maxRecDepth 100000 in
theorem yMay_no {w : World} {B Y : Nat} {id : Int} (h : YAt w B Y id none) : Calls Tryz.prog 49 #[PT Y] w fun e w' => e = .returned (.int .i64 9) ∧ w' = w := by
  have c1 := h.x.cell (j := 1) rfl
  clear h
  go_enter Tryz.func49, Tryz.ntmps49
  go_wp2
  go_ret
  exact ⟨rfl, rfl⟩
theorem YTx.more {w : World} {B : Nat} {b : Yb} {t : Tx} (h : YTx w B b t) (ho : t.ops < 64) : YTx w B b t.more :=
  ⟨h.row, h.ps, h.pl, h.buf, h.lo, Nat.le_trans h.len (Nat.le_succ _), ho⟩
set_option maxHeartbeats 1000000 in
set_option maxRecDepth 100000 in
theorem yMay_any {w : World} {B Y : Nat} {id : Int} {b : Yb} {t : Tx} (h : YAt w B Y id (some (b, t))) :
    Calls Tryz.prog 49 #[PT Y] w fun e w' => (64 ≤ t.ops ∧ e = .returned (.int .i64 13) ∧ w' = w) ∨ (t.ops < 64 ∧ e = .returned (.int .i64 0) ∧ YAt w' B Y id (some (b, t.more)) ∧ Chg (fun k => k = Y) w w') := by
  have H := hide h
  have c1 := h.x.cell (j := 1) rfl
  have c4 := h.x.cell (j := 4) rfl
  have z4 := h.x.frozen 4
  have hT := hide (h.tx b t rfl)
  obtain ⟨n, HN⟩ : ∃ n : Nat, Hid (t.ops = n) := ⟨_, rfl⟩
  rw [HN.out] at c4 ⊢
  clear h
  by_cases hn : 64 ≤ n
  · have q1 : (64 : Int) ≤ (n : Int) := by omega
    go_enter Tryz.func49, Tryz.ntmps49
    go_wp2_with fail
    go_ret
    exact .inl ⟨hn, rfl, rfl⟩
  · have q1 : ¬ (64 : Int) ≤ (n : Int) := by omega
    have hw : IntKind.i64.wrap ((n : Int) + 1) = (n : Int) + 1 := wr64 (by omega) (by omega)
    go_enter Tryz.func49, Tryz.ntmps49
    go_wp2_with fail
    go_ret
    refine ⟨by omega, rfl, ⟨?_, H.out.lo, fun b' t' e => ?_⟩, Chg.setCell (F := fun k => k = Y) w rfl 4 _⟩
    · have hx := H.out.x.set 4 (.int .i64 ((n : Int) + 1))
      have e : (YC id (some (b, t))).set 4 (.int .i64 ((n : Int) + 1)) = YC id (some (b, t.more)) := by
        rw [← HN.out]
        rfl
      rw [e] at hx
      exact hx
    · cases e
      refine (hT.out.more (by rw [HN.out]; omega)).chg (F := fun k => k = Y) (Chg.setCell (F := fun k => k = Y) w rfl 4 _) (fun e => ?_) (fun k hk e => ?_) (fun k cur hb e => ?_)
      · have := hT.out.buf.d
        rw [e] at this
        exact cells_ne this H.out.x (by decide) rfl
      · obtain ⟨_, _, cur, hc⟩ := hT.out.row.block hk
        exact cells_ne hc H.out.x (by decide) e
      · exact cells_ne hb H.out.x (by decide) e
set_option maxHeartbeats 1000000 in
set_option maxRecDepth 100000 in
theorem yClose_any {w : World} {B Y : Nat} {id : Int} {y : Option (Yb × Tx)} (h : YAt w B Y id y) : Calls Tryz.prog 28 #[PT Y] w fun e w' => e = .returned (.bool y.isSome) ∧ YAt w' B Y id none ∧ Chg (fun k => k = Y) w w' := by
  have H := hide h
  have hb := build_rses id
  have c0 : w.cell? ⟨Y, 0, none⟩ = some (.int .i64 id) := h.x.cell (j := 0) (by cases y <;> rfl)
  have c1 : w.cell? ⟨Y, 1, none⟩ = some (.bool y.isSome) := h.x.cell (j := 1) (by cases y <;> rfl)
  have hlen := YC_len id y
  obtain ⟨cs, HCS⟩ : ∃ cs, Hid (YC id y = cs) := ⟨_, rfl⟩
  obtain ⟨z, HZ⟩ : ∃ z, Hid (y.isSome = z) := ⟨_, rfl⟩
  have BX := hide h.x
  rw [HCS.out] at BX hlen
  have HL := hide hlen
  rw [HZ.out] at c1 ⊢
  clear h hlen
  go_enter Tryz.func28, Tryz.ntmps28
  go_wp2_with (first
    | (refine wpList_store_blk rfl 47 _ _ rfl Y cs (YC id none) 47 rfl rfl BX.out HL.out.symm Tryz.size47 (YC_one id none) ?_; intro w5 hb5 hu5)
    | fail)
  go_ret
  exact ⟨rfl, ⟨hb5, H.out.lo, fun _ _ e => by cases e⟩, Chg.of_but hu5 rfl⟩
theorem YTx.writes {w w' : World} {B : Nat} {b : Yb} {t : Tx} (h : YTx w B b t) {vb : Value} {W : List Pr} (hb : RBf w' b.B vb W) (hc : Chg (fun k => k = b.B) w w') : YTx w' B { b with vb := vb } { t with W := W } := by
  refine ⟨h.row.chg hc (fun k hk e => ?_), fun y hy => (h.ps y hy).chg hc (fun k hk e => ?_), h.pl, hb, h.lo, h.len, h.ops⟩
  · obtain ⟨_, _, cur, hcc⟩ := h.row.block hk
    exact cells_ne hcc h.buf.d (by decide) e
  · obtain ⟨_, _, cur, hcc⟩ := (h.ps y hy).block hk
    exact cells_ne hcc h.buf.d (by decide) e
theorem yPut_no {w : World} {B Y : Nat} {id : Int} (h : YAt w B Y id none) (k v : ByteArray) : Calls Tryz.prog 21 #[PT Y, .string k, .string v] w fun e w' => e = .returned (.int .i64 9) ∧ w' = w := by
  have CM := hide (yMay_no h)
  clear h
  go_enter Tryz.func21, Tryz.ntmps21
  go_wp2_with fail
  refine CM.out.mono ?_
  rintro e w_ ⟨rfl, hw⟩
  subst w_
  go_wp2_with fail
  go_ret
  exact ⟨rfl, rfl⟩
theorem yDrop_no {w : World} {B Y : Nat} {id : Int} (h : YAt w B Y id none) (k : ByteArray) : Calls Tryz.prog 23 #[PT Y, .string k] w fun e w' => e = .returned (.int .i64 9) ∧ w' = w := by
  have CM := hide (yMay_no h)
  clear h
  go_enter Tryz.func23, Tryz.ntmps23
  go_wp2_with fail
  refine CM.out.mono ?_
  rintro e w_ ⟨rfl, hw⟩
  subst w_
  go_wp2_with fail
  go_ret
  exact ⟨rfl, rfl⟩
set_option maxHeartbeats 1000000 in
set_option maxRecDepth 100000 in
theorem yPut_any {w : World} {B Y : Nat} {id : Int} {b : Yb} {t : Tx} (h : YAt w B Y id (some (b, t))) (hs : Bs t.W) (hl : t.W.length ≤ 64) (k v : ByteArray) :
    Calls Tryz.prog 21 #[PT Y, .string k, .string v] w fun e w' => RefPost w B Y id b t (putT t (k, v, false)).2 (.int .i64 (putT t (k, v, false)).1) e w' := by
  have H := hide h
  have HS := hide hs
  have HL := hide hl
  have CA := hide (yMay_any h)
  obtain ⟨⟨r, t'⟩, HR⟩ : ∃ r, Hid (putT t (k, v, false) = r) := ⟨_, rfl⟩
  rw [HR.out]
  simp only
  clear h hs hl
  go_enter Tryz.func21, Tryz.ntmps21
  go_wp2_with fail
  refine CA.out.mono ?_
  rintro e w1 (⟨hm, rfl, hw⟩ | ⟨hm, rfl, S1, C1⟩)
  · subst w1
    have hg := HR.out
    unfold putT at hg
    rw [if_pos hm] at hg
    cases hg
    go_wp2_with fail
    go_ret
    exact ⟨rfl, b, H.out, Chg.refl _ _, fun k hk => .inl hk⟩
  · have K1 : Hid (Chg (YG Y (some (b, t))) w w1) := (show Chg _ _ _ from C1.mono (fun k _ hk => .inl hk))
    have HG : Hid (r = wrE t.W (k, v, false) ∧ t' = { t.more with W := wrB t.W (k, v, false) }) := (show _ ∧ _ by
      have hg := HR.out
      unfold putT at hg
      rw [if_neg (by omega)] at hg
      obtain ⟨h1, h2⟩ := Prod.mk.inj hg
      exact ⟨h1.symm, h2.symm⟩)
    have Y1 := hide S1
    clear S1 C1 hm CA
    have T1 := hide (Y1.out.tx b t.more rfl)
    have c6 := Y1.out.x.cell (j := 6) rfl
    obtain ⟨bB, HbB⟩ : ∃ z, Hid (b.B = z) := ⟨_, rfl⟩
    have CB := hide (rPut_any T1.out.buf HS.out HL.out k v)
    rw [show wrE t.more.W (k, v, false) = r from HG.out.1.symm, HbB.out] at CB
    rw [HbB.out] at c6
    go_wp2_with fail
    refine CB.out.mono ?_
    rintro e w2 ⟨rfl, vb, hB, hC⟩
    have B2 := hide hB
    have C2 := hide hC
    clear hB hC
    go_wp2_with fail
    go_ret
    have T2 := T1.out.writes (by rw [HbB.out]; exact B2.out) (by rw [HbB.out]; exact C2.out)
    rw [HG.out.2]
    refine ⟨rfl, { b with vb := vb }, ⟨Y1.out.x.chg C2.out (fun e => ?_), Y1.out.lo, fun b' t' e => ?_⟩, K1.out.trans (C2.out.mono (fun k _ hk => .inr (.inl (by rw [HbB.out]; exact hk)))), fun k hk => .inl hk⟩
    · have := T1.out.buf.d
      rw [HbB.out, ← e] at this
      exact cells_ne this Y1.out.x (by decide) rfl
    · cases e
      exact T2
set_option maxHeartbeats 1000000 in
set_option maxRecDepth 100000 in
theorem yDrop_any {w : World} {B Y : Nat} {id : Int} {b : Yb} {t : Tx} (h : YAt w B Y id (some (b, t))) (hs : Bs t.W) (hl : t.W.length ≤ 64) (k : ByteArray) :
    Calls Tryz.prog 23 #[PT Y, .string k] w fun e w' => RefPost w B Y id b t (putT t (k, em, true)).2 (.int .i64 (putT t (k, em, true)).1) e w' := by
  have H := hide h
  have HS := hide hs
  have HL := hide hl
  have CA := hide (yMay_any h)
  obtain ⟨⟨r, t'⟩, HR⟩ : ∃ r, Hid (putT t (k, em, true) = r) := ⟨_, rfl⟩
  rw [HR.out]
  simp only
  clear h hs hl
  go_enter Tryz.func23, Tryz.ntmps23
  go_wp2_with fail
  refine CA.out.mono ?_
  rintro e w1 (⟨hm, rfl, hw⟩ | ⟨hm, rfl, S1, C1⟩)
  · subst w1
    have hg := HR.out
    unfold putT at hg
    rw [if_pos hm] at hg
    cases hg
    go_wp2_with fail
    go_ret
    exact ⟨rfl, b, H.out, Chg.refl _ _, fun k hk => .inl hk⟩
  · have K1 : Hid (Chg (YG Y (some (b, t))) w w1) := (show Chg _ _ _ from C1.mono (fun k _ hk => .inl hk))
    have HG : Hid (r = wrE t.W (k, em, true) ∧ t' = { t.more with W := wrB t.W (k, em, true) }) := (show _ ∧ _ by
      have hg := HR.out
      unfold putT at hg
      rw [if_neg (by omega)] at hg
      obtain ⟨h1, h2⟩ := Prod.mk.inj hg
      exact ⟨h1.symm, h2.symm⟩)
    have Y1 := hide S1
    clear S1 C1 hm CA
    have T1 := hide (Y1.out.tx b t.more rfl)
    have c6 := Y1.out.x.cell (j := 6) rfl
    obtain ⟨bB, HbB⟩ : ∃ z, Hid (b.B = z) := ⟨_, rfl⟩
    have CB := hide (rDrop_any T1.out.buf HS.out HL.out k)
    rw [show wrE t.more.W (k, em, true) = r from HG.out.1.symm, HbB.out] at CB
    rw [HbB.out] at c6
    go_wp2_with fail
    refine CB.out.mono ?_
    rintro e w2 ⟨rfl, vb, hB, hC⟩
    have B2 := hide hB
    have C2 := hide hC
    clear hB hC
    go_wp2_with fail
    go_ret
    have T2 := T1.out.writes (by rw [HbB.out]; exact B2.out) (by rw [HbB.out]; exact C2.out)
    rw [HG.out.2]
    refine ⟨rfl, { b with vb := vb }, ⟨Y1.out.x.chg C2.out (fun e => ?_), Y1.out.lo, fun b' t' e => ?_⟩, K1.out.trans (C2.out.mono (fun k _ hk => .inr (.inl (by rw [HbB.out]; exact hk)))), fun k hk => .inl hk⟩
    · have := T1.out.buf.d
      rw [HbB.out, ← e] at this
      exact cells_ne this Y1.out.x (by decide) rfl
    · cases e
      exact T2
end Go.Proofs.YtcicekggeampcaaGreat
