/-
  The law TrieNone: the call returns true.
-/
import Derived.Test.YtnomlnedincfjaaDoorLawX11
namespace Go.Proofs.YtnomlnedincfjaaDoor
open Go.RowKit
theorem wpList_indexK {P : Program} {ops : Array Oper} {rest : List Oper} {op : Oper} {a : Act} {w : World} {Q : Exit → Act → World → Prop} (hgd : op.guard = none) (t : TypeId) (x y : Operand) (_ : op.op = .index t x y) (v : Value)
    (hrun : (execOp a.eval op).run P w = .ok (.value v) w) (h : wpList P ops Q rest (a.put op.dst v) w) : wpList P ops Q (op :: rest) a w := by
  refine wpList_plain hgd fun K hK => ?_
  unfold Oper.wp
  rw [hrun]
  exact hK _ _ h
theorem wpList_build_w9 {P : Program} {ops : Array Oper} {rest : List Oper} {op : Oper} {a : Act} {w : World} {Q : Exit → Act → World → Prop} (hw : Region.wanted op (yielded ops a.tmps) = true) (t : TypeId) (ps : Array (Nat × Operand)) (_ : op.op = .build t ps) (v : Value)
    (hrun : (execOp a.eval op).run P w = .ok (.value v) w) (h : wpList P ops Q rest (a.put op.dst v) w) : wpList P ops Q (op :: rest) a w := by
  refine wpList_step fun K hK => ?_
  rw [if_pos hw]
  unfold Oper.wp
  rw [hrun]
  exact hK _ _ h
/-- A Trie that is nobody's: nil, or one that was not made. -/
def Un (w : World) (v : Value) : Prop := v = .pointer none ∨ ∃ (p : Nat) (x y : Value), v = PT p ∧ Blk w p 54 [.bool false, x, y]
theorem Un.kept {w w' : World} {v : Value} (h : Un w v) (hb : Below w.heap.size w w') : Un w' v := by
  rcases h with h | ⟨p, x, y, e, hB⟩
  · exact .inl h
  · exact .inr ⟨p, x, y, e, hB.kept hb⟩
theorem Un.made {w : World} {q : Option Addr} (h : Un w (.pointer q)) : Calls Tryd.prog 27 #[.pointer q] w fun e w' => e = .returned (.bool false) ∧ w' = w := by
  rcases h with h | ⟨p, x, y, e, hB⟩
  · rw [h]; exact tisMade_nil w
  · rw [e]; exact tisMade_any hB
theorem build_zh (w : World) : (Instr.build 24 #[]).run Tryd.prog w = .ok (.agg (By zh.1).toArray) w := run_build w _ _ _ (by kernel_rfl)
set_option maxHeartbeats 2000000 in
set_option maxRecDepth 100000 in
theorem uGet_any {w : World} {q : Option Addr} {z0 : Hs} (hz : zh = z0) (k : Hs) (h : Un w (.pointer q)) : Calls Tryd.prog 11 #[.pointer q, HV k] w fun e w' => e = .returned (.tuple #[.agg (By z0.1).toArray, .bool false]) ∧ Below w.heap.size w w' := by
  subst hz
  obtain ⟨N, HN⟩ : ∃ N, Hid (w.heap.size = N) := ⟨_, rfl⟩
  have HU := hide h
  clear h
  rw [HN.out]
  go_enter Tryd.func11, Tryd.ntmps11
  unfold HV
  go_upto_region 1 with fail
  obtain ⟨w1, hw1⟩ : ∃ z, z = (w.alloc (.cells (By k.1).toArray 24 (0, 0))).alloc (.cells (By zh.1).toArray 24 (0, 0)) := ⟨_, rfl⟩
  change Code.wp _ _ _ _ ((w.alloc (.cells (By k.1).toArray 24 (0, 0))).alloc (.cells (By zh.1).toArray 24 (0, 0)))
  rw [← hw1, HN.out]
  have Kw1 : Hid (Blk w1 N 24 (By k.1)) := (show Blk _ _ _ _ by rw [hw1, ← HN.out]; exact (Blk.new w 24 (By k.1)).alloc _)
  have Vw1 : Hid (Blk w1 (N + 1) 24 (By zh.1)) := (show Blk _ _ _ _ by rw [hw1, ← HN.out]; have := Blk.new (w.alloc (.cells (By k.1).toArray 24 (0, 0))) 24 (By zh.1); simpa using this)
  have Lw1 : Hid (Below N w w1) := (show Below _ _ _ by rw [hw1, ← HN.out]; exact ((Below.refl _ _).alloc (Nat.le_refl _) _).alloc (by simp) _)
  clear hw1
  have CM := hide (HU.out.kept (Lw1.out.mono (Nat.le_of_eq HN.out))).made
  go_wp2_with (first
    | (go_at_call 27; refine CM.out.mono ?_; rintro e w' ⟨rfl, hw'⟩; subst w')
    | (refine wpList_store_blk rfl 24 _ _ rfl (N + 1) (By zh.1) (By zh.1) 24 rfl rfl Vw1.out rfl (Tryd.sizeH zh) (By_one _) ?_; intro w2 hb2 hu2)
    | (refine wpList_buildK rfl 24 _ rfl (.agg (By zh.1).toArray) (by kernel_rfl) ?_)
    | fail)
  refine bodyPost_ret (results_hb rfl _ _ (N + 1) 24 (By zh.1) (.bool false) rfl rfl hb2 Tryd.underlying24 rfl (Tryd.sizeH zh)) rfl ⟨rfl, ?_⟩
  exact Lw1.out.trans (hu2.below (by omega) (Nat.le_of_lt Kw1.out.lt))
set_option maxHeartbeats 2000000 in
set_option maxRecDepth 100000 in
theorem uPut_any {w : World} {q : Option Addr} (k v : Hs) (h : Un w (.pointer q)) : Calls Tryd.prog 23 #[.pointer q, HV k, HV v] w fun e w' => e = .returned (.pointer none) ∧ Below w.heap.size w w' := by
  obtain ⟨N, HN⟩ : ∃ N, Hid (w.heap.size = N) := ⟨_, rfl⟩
  have HU := hide h
  clear h
  rw [HN.out]
  go_enter Tryd.func23, Tryd.ntmps23
  unfold HV
  go_upto_region 1 with fail
  obtain ⟨w1, hw1⟩ : ∃ z, z = (w.alloc (.cells (By k.1).toArray 24 (0, 0))).alloc (.cells (By v.1).toArray 24 (0, 0)) := ⟨_, rfl⟩
  change Code.wp _ _ _ _ ((w.alloc (.cells (By k.1).toArray 24 (0, 0))).alloc (.cells (By v.1).toArray 24 (0, 0)))
  rw [← hw1]
  have Lw1 : Hid (Below N w w1) := (show Below _ _ _ by rw [hw1, ← HN.out]; exact ((Below.refl _ _).alloc (Nat.le_refl _) _).alloc (by simp) _)
  clear hw1
  have CM := hide (HU.out.kept (Lw1.out.mono (Nat.le_of_eq HN.out))).made
  go_wp2_with (first
    | (go_at_call 27; refine CM.out.mono ?_; rintro e w' ⟨rfl, hw'⟩; subst w')
    | fail)
  go_ret
  exact ⟨rfl, Lw1.out⟩
set_option maxHeartbeats 2000000 in
set_option maxRecDepth 100000 in
theorem uDrop_any {w : World} {q : Option Addr} (k : Hs) (h : Un w (.pointer q)) : Calls Tryd.prog 24 #[.pointer q, HV k] w fun e w' => e = .returned (.pointer none) ∧ Below w.heap.size w w' := by
  obtain ⟨N, HN⟩ : ∃ N, Hid (w.heap.size = N) := ⟨_, rfl⟩
  have HU := hide h
  clear h
  rw [HN.out]
  go_enter Tryd.func24, Tryd.ntmps24
  unfold HV
  go_upto_region 1 with fail
  obtain ⟨w1, hw1⟩ : ∃ z, z = w.alloc (.cells (By k.1).toArray 24 (0, 0)) := ⟨_, rfl⟩
  change Code.wp _ _ _ _ (w.alloc (.cells (By k.1).toArray 24 (0, 0)))
  rw [← hw1]
  have Lw1 : Hid (Below N w w1) := (show Below _ _ _ by rw [hw1, ← HN.out]; exact (Below.refl _ _).alloc (Nat.le_refl _) _)
  clear hw1
  have CM := hide (HU.out.kept (Lw1.out.mono (Nat.le_of_eq HN.out))).made
  go_wp2_with (first
    | (go_at_call 27; refine CM.out.mono ?_; rintro e w' ⟨rfl, hw'⟩; subst w')
    | fail)
  go_ret
  exact ⟨rfl, Lw1.out⟩
set_option maxHeartbeats 2000000 in
set_option maxRecDepth 100000 in
theorem uLen_any {w : World} {q : Option Addr} (h : Un w (.pointer q)) : Calls Tryd.prog 17 #[.pointer q] w fun e w' => e = .returned (.int .i64 0) ∧ w' = w := by
  have CM := hide h.made
  clear h
  go_enter Tryd.func17, Tryd.ntmps17
  go_wp2_with (first
    | (go_at_call 27; refine CM.out.mono ?_; rintro e w' ⟨rfl, hw'⟩; subst w')
    | fail)
  go_ret
  exact ⟨rfl, rfl⟩
set_option maxHeartbeats 2000000 in
set_option maxRecDepth 100000 in
theorem uRoot_any {w : World} {q : Option Addr} {z0 : Hs} (hz : zh = z0) (h : Un w (.pointer q)) : Calls Tryd.prog 15 #[.pointer q] w fun e w' => e = .returned (.agg (By z0.1).toArray) ∧ Below w.heap.size w w' := by
  subst hz
  obtain ⟨N, HN⟩ : ∃ N, Hid (w.heap.size = N) := ⟨_, rfl⟩
  have HU := hide h
  clear h
  go_enter Tryd.func15, Tryd.ntmps15
  go_upto_region 1 with fail
  obtain ⟨w1, hw1⟩ : ∃ z, z = w.alloc (.cells (By zh.1).toArray 24 (0, 0)) := ⟨_, rfl⟩
  change Code.wp _ _ _ _ (w.alloc (.cells (By zh.1).toArray 24 (0, 0)))
  rw [← hw1, HN.out]
  have V1 : Hid (Blk w1 N 24 (By zh.1)) := (show Blk _ _ _ _ by rw [hw1, ← HN.out]; exact Blk.new w 24 (By zh.1))
  have L1 : Hid (Below N w w1) := (show Below _ _ _ by rw [hw1, ← HN.out]; exact (Below.refl _ _).alloc (Nat.le_refl _) _)
  clear hw1
  have CM := hide (HU.out.kept (L1.out.mono (Nat.le_of_eq HN.out))).made
  go_wp2_with (first
    | (go_at_call 27; refine CM.out.mono ?_; rintro e w' ⟨rfl, hw'⟩; subst w')
    | (refine wpList_store_blk rfl 24 _ _ rfl (N) (By zh.1) (By zh.1) 24 rfl rfl V1.out rfl (Tryd.sizeH zh) (By_one _) ?_; intro w2 hb2 hu2)
    | (refine wpList_buildK rfl 24 _ rfl (.agg (By zh.1).toArray) (by kernel_rfl) ?_)
    | fail)
  refine bodyPost_ret (ret_hash rfl _ _ N zh rfl hb2) rfl ⟨rfl, ?_⟩
  rw [HN.out]
  exact L1.out.trans (hu2.below (Nat.le_refl _) (Nat.le_of_lt V1.out.lt))
set_option maxHeartbeats 2000000 in
set_option maxRecDepth 100000 in
theorem uAll_any {w : World} {q : Option Addr} (h : Un w (.pointer q)) : Calls Tryd.prog 29 #[.pointer q] w fun e w' => ∃ E, e = .returned (.func (.func 40) #[] #[PT E]) ∧ w.heap.size ≤ E ∧ Blk w' E 52 [.pointer none] ∧ Below w.heap.size w w' := by
  obtain ⟨N, HN⟩ : ∃ N, Hid (w.heap.size = N) := ⟨_, rfl⟩
  have HU := hide h
  clear h
  have hmf : ∀ (fn : Fn) (first cap : Array Value) (w : World), (Instr.makeFunc fn first cap).run Tryd.prog w = .ok (.func fn first cap) w := fun _ _ _ _ => rfl
  rw [HN.out]
  go_enter Tryd.func29, Tryd.ntmps29
  go_upto_region 2 with fail
  obtain ⟨w1, hw1⟩ : ∃ z, z = w.alloc (.cells #[.pointer none] 52 (0, 0)) := ⟨_, rfl⟩
  change Code.wp _ _ _ _ (w.alloc (.cells #[.pointer none] 52 (0, 0)))
  rw [← hw1, HN.out]
  have B1 : Hid (Blk w1 N 52 [.pointer none]) := (show Blk _ _ _ _ by rw [hw1, ← HN.out]; exact Blk.new w 52 [.pointer none])
  have L1 : Hid (Below N w w1) := (show Below _ _ _ by rw [hw1, ← HN.out]; exact (Below.refl _ _).alloc (Nat.le_refl _) _)
  clear hw1
  have CM := hide (HU.out.kept (L1.out.mono (Nat.le_of_eq HN.out))).made
  go_wp2_with (first
    | (go_at_call 27; refine CM.out.mono ?_; rintro e w' ⟨rfl, hw'⟩; subst w')
    | fail)
  go_ret
  exact ⟨N, rfl, Nat.le_refl _, B1.out, L1.out⟩
theorem Un.all {w : World} {q : Option Addr} (h : Un w (.pointer q)) (B0 : Nat) : AllOk B0 w (.pointer q) [] := ⟨none, .inl ⟨rfl, rfl⟩, fun _ hW => uAll_any (h.kept hW)⟩
set_option maxHeartbeats 4000000 in
set_option maxRecDepth 100000 in
theorem trieNone_any (x : Hs × Hs × Bool) (w : World) (hT : Tabs w) : Calls Tryd.prog 7 #[.agg (AE.c x).toArray] w fun e w' => e = .returned (.bool true) ∧ Below w.heap.size w w' := by
  obtain ⟨N, HN⟩ : ∃ N, Hid (w.heap.size = N) := ⟨_, rfl⟩
  have h2 : 2 ≤ N := by rw [← HN.out]; exact hT.size
  have HT := hide hT
  clear hT
  rw [HN.out]
  obtain ⟨z0, HZ0⟩ : ∃ z, Hid (zh = z) := ⟨_, rfl⟩
  go_enter Tryd.func7, Tryd.ntmps7
  go_upto_region 2 with fail
  obtain ⟨w1, hw1⟩ : ∃ z, z = (w.alloc (.cells (AE.c x).toArray 48 (0, 0))).alloc (.cells #[.bool false, .pointer none, .int .i64 0] 54 (0, 0)) := ⟨_, rfl⟩
  change Code.wp _ _ _ _ ((w.alloc (.cells (AE.c x).toArray 48 (0, 0))).alloc (.cells #[.bool false, .pointer none, .int .i64 0] 54 (0, 0)))
  rw [← hw1, HN.out]
  have XX : Hid (Blk w1 N 48 (AE.c x)) := (show Blk _ _ _ _ by rw [hw1, ← HN.out]; exact (Blk.new w 48 (AE.c x)).alloc _)
  have ZZ : Hid (Blk w1 (N + 1) 54 [.bool false, .pointer none, .int .i64 0]) := (show Blk _ _ _ _ by rw [hw1, ← HN.out]; have := Blk.new (w.alloc (.cells (AE.c x).toArray 48 (0, 0))) 54 [.bool false, .pointer none, .int .i64 0]; simpa using this)
  have LL : Hid (Below N w w1) := (show Below _ _ _ by rw [hw1, ← HN.out]; exact ((Below.refl _ _).alloc (Nat.le_refl _) _).alloc (by simp) _)
  clear hw1
  have GG : Hid (N ≤ w1.heap.size) := (show _ ≤ _ from Nat.le_of_lt XX.out.lt)
  have TT := hide (HT.out.kept (LL.out.mono h2))
  go_wp2_with (first
    | (refine wpList_buildK rfl 55 _ rfl (.agg #[.pointer none, PT (N + 1)]) (by kernel_rfl) ?_)
    | fail)
  go_loopg [11] 3 (fun g z wr => ∃ (i : Nat), i ≤ 2 ∧ g + i = 3 ∧ z = .int .i64 (i : Int) ∧ Hid (Blk wr N 48 (AE.c x)) ∧ Hid (Blk wr (N + 1) 54 [.bool false, .pointer none, .int .i64 0]) ∧ Hid (Tabs wr) ∧ Hid (Below N w wr) ∧ Hid (N ≤ wr.heap.size))
  case atStart => exact ⟨0, by omega, by omega, rfl, XX, ZZ, TT, LL, GG⟩
  case round =>
    clear XX ZZ TT LL GG
    obtain ⟨i, hi, hgi, rfl, XX, ZZ, TT, LL, GG⟩ := hrel
    rcases (show i = 0 ∨ i = 1 ∨ i = 2 by omega) with rfl | rfl | rfl
    · skip
      have UN : Hid (Un wr (.pointer none)) := (show Un _ _ from .inl rfl)
      go_upto_region 5 with (first
        | (refine wpList_indexK rfl 55 _ _ rfl (.pointer none) (by kernel_rfl) ?_)
        | fail)
      go_upto_region 6 with (first
        | (refine wpList_load_mid rfl 24 _ rfl (N) 0 rfl (By (x.1).1) _ (AEkey XX.out) Tryd.underlying24 rfl (Tryd.sizeH (x.1)) ?_)
        | (go_at_call 11; refine (uGet_any HZ0.out x.1 UN.out).mono ?_; rintro e w9 ⟨rfl, hb9⟩; have XX_ := hide (XX.out.kept hb9); have ZZ_ := hide (ZZ.out.kept hb9); have TT_ := hide (TT.out.gr hb9); have UN_ := hide (UN.out.kept hb9); have LL_ : Hid (Below N w _) := (show _ from LL.out.trans (hb9.mono GG.out)); have GG_ : Hid (N ≤ _) := (show _ ≤ _ from Nat.le_trans GG.out hb9.size); clear hb9 XX ZZ TT UN LL GG; have XX := XX_; have ZZ := ZZ_; have TT := TT_; have UN := UN_; have LL := LL_; have GG := GG_; clear XX_ ZZ_ TT_ UN_ LL_ GG_; obtain ⟨E1, HM⟩ : ∃ z, Hid (w9.heap.size = z) := ⟨_, rfl⟩)
        | (rw [HM.out]; refine wpList_store_blk rfl 24 _ _ rfl E1 (By zh.1) (By (z0).1) 24 rfl rfl (by rw [← HM.out]; exact Blk.new _ 24 (By zh.1)) (by rw [By_len, By_len]) (Tryd.sizeH (z0)) (By_one _) ?_; intro w9 hbk9 hu9; have hb9 := room_below HM.out hu9; have XX_ := hide (XX.out.kept hb9); have ZZ_ := hide (ZZ.out.kept hb9); have TT_ := hide (TT.out.gr hb9); have UN_ := hide (UN.out.kept hb9); have LL_ : Hid (Below N w _) := (show _ from LL.out.trans (hb9.mono GG.out)); have GG_ : Hid (N ≤ _) := (show _ ≤ _ from Nat.le_trans GG.out hb9.size); clear hb9 XX ZZ TT UN LL GG; have XX := XX_; have ZZ := ZZ_; have TT := TT_; have UN := UN_; have LL := LL_; have GG := GG_; clear XX_ ZZ_ TT_ UN_ LL_ GG_; have VZ := hide hbk9; clear hbk9 hu9 HM)
        | fail)
      clear VZ
      go_upto_region 7 with (first
        | (go_at_call 13; refine (uitems_m (B := N) (takeM_all []) rfl (UN.out.all N) (by decide) GG.out).mono ?_; rintro e w9 ⟨pa3, lc3, rfl, o9, hb9⟩; have XX_ := hide (XX.out.kept hb9); have ZZ_ := hide (ZZ.out.kept hb9); have TT_ := hide (TT.out.gr hb9); have UN_ := hide (UN.out.kept hb9); have LL_ : Hid (Below N w _) := (show _ from LL.out.trans (hb9.mono GG.out)); have GG_ : Hid (N ≤ _) := (show _ ≤ _ from Nat.le_trans GG.out hb9.size); clear hb9 XX ZZ TT UN LL GG; have XX := XX_; have ZZ := ZZ_; have TT := TT_; have UN := UN_; have LL := LL_; have GG := GG_; clear XX_ ZZ_ TT_ UN_ LL_ GG_; have hcp3 := o9.rd.cap'; clear o9)
        | fail)
      have hq := eqAA z0
      go_wp2_with (first
        | (refine wpList_load_mid rfl 24 _ rfl (N) 0 rfl (By (x.1).1) _ (AEkey XX.out) Tryd.underlying24 rfl (Tryd.sizeH (x.1)) ?_)
        | (refine wpList_load_mid rfl 24 _ rfl (N) 32 rfl (By (x.2.1).1) _ (AEval XX.out) Tryd.underlying24 rfl (Tryd.sizeH (x.2.1)) ?_)
        | (refine wpList_load_w9 rfl 24 _ rfl (N) 0 rfl (By (x.1).1) _ (AEkey XX.out) Tryd.underlying24 rfl (Tryd.sizeH (x.1)) ?_)
        | (go_at_call 23; refine (uPut_any x.1 x.2.1 UN.out).mono ?_; rintro e w9 ⟨rfl, hb9⟩; have XX_ := hide (XX.out.kept hb9); have ZZ_ := hide (ZZ.out.kept hb9); have TT_ := hide (TT.out.gr hb9); have UN_ := hide (UN.out.kept hb9); have LL_ : Hid (Below N w _) := (show _ from LL.out.trans (hb9.mono GG.out)); have GG_ : Hid (N ≤ _) := (show _ ≤ _ from Nat.le_trans GG.out hb9.size); clear hb9 XX ZZ TT UN LL GG; have XX := XX_; have ZZ := ZZ_; have TT := TT_; have UN := UN_; have LL := LL_; have GG := GG_; clear XX_ ZZ_ TT_ UN_ LL_ GG_)
        | (go_at_call 24; refine (uDrop_any x.1 UN.out).mono ?_; rintro e w9 ⟨rfl, hb9⟩; have XX_ := hide (XX.out.kept hb9); have ZZ_ := hide (ZZ.out.kept hb9); have TT_ := hide (TT.out.gr hb9); have UN_ := hide (UN.out.kept hb9); have LL_ : Hid (Below N w _) := (show _ from LL.out.trans (hb9.mono GG.out)); have GG_ : Hid (N ≤ _) := (show _ ≤ _ from Nat.le_trans GG.out hb9.size); clear hb9 XX ZZ TT UN LL GG; have XX := XX_; have ZZ := ZZ_; have TT := TT_; have UN := UN_; have LL := LL_; have GG := GG_; clear XX_ ZZ_ TT_ UN_ LL_ GG_)
        | (go_at_call 17; refine (uLen_any UN.out).mono ?_; rintro e w9 ⟨rfl, hw9⟩; subst w9)
        | (go_at_call 15; refine (uRoot_any HZ0.out UN.out).mono ?_; rintro e w9 ⟨rfl, hb9⟩; have XX_ := hide (XX.out.kept hb9); have ZZ_ := hide (ZZ.out.kept hb9); have TT_ := hide (TT.out.gr hb9); have UN_ := hide (UN.out.kept hb9); have LL_ : Hid (Below N w _) := (show _ from LL.out.trans (hb9.mono GG.out)); have GG_ : Hid (N ≤ _) := (show _ ≤ _ from Nat.le_trans GG.out hb9.size); clear hb9 XX ZZ TT UN LL GG; have XX := XX_; have ZZ := ZZ_; have TT := TT_; have UN := UN_; have LL := LL_; have GG := GG_; clear XX_ ZZ_ TT_ UN_ LL_ GG_)
        | (refine wpList_build_w9 rfl 24 _ rfl (.agg (By z0.1).toArray) (by rw [← HZ0.out]; kernel_rfl) ?_)
        | fail)
      go_roundg (2 - 0)
      case measure => omega
      case rel => exact ⟨1, by omega, by omega, by go_num, XX, ZZ, TT, LL, GG⟩
    · skip
      have UN : Hid (Un wr (.pointer (some ⟨N + 1, 0, none⟩))) := (show Un _ _ from .inr ⟨N + 1, _, _, rfl, ZZ.out⟩)
      go_upto_region 5 with (first
        | (refine wpList_indexK rfl 55 _ _ rfl (.pointer (some ⟨N + 1, 0, none⟩)) (by kernel_rfl) ?_)
        | fail)
      go_upto_region 6 with (first
        | (refine wpList_load_mid rfl 24 _ rfl (N) 0 rfl (By (x.1).1) _ (AEkey XX.out) Tryd.underlying24 rfl (Tryd.sizeH (x.1)) ?_)
        | (go_at_call 11; refine (uGet_any HZ0.out x.1 UN.out).mono ?_; rintro e w9 ⟨rfl, hb9⟩; have XX_ := hide (XX.out.kept hb9); have ZZ_ := hide (ZZ.out.kept hb9); have TT_ := hide (TT.out.gr hb9); have UN_ := hide (UN.out.kept hb9); have LL_ : Hid (Below N w _) := (show _ from LL.out.trans (hb9.mono GG.out)); have GG_ : Hid (N ≤ _) := (show _ ≤ _ from Nat.le_trans GG.out hb9.size); clear hb9 XX ZZ TT UN LL GG; have XX := XX_; have ZZ := ZZ_; have TT := TT_; have UN := UN_; have LL := LL_; have GG := GG_; clear XX_ ZZ_ TT_ UN_ LL_ GG_; obtain ⟨E1, HM⟩ : ∃ z, Hid (w9.heap.size = z) := ⟨_, rfl⟩)
        | (rw [HM.out]; refine wpList_store_blk rfl 24 _ _ rfl E1 (By zh.1) (By (z0).1) 24 rfl rfl (by rw [← HM.out]; exact Blk.new _ 24 (By zh.1)) (by rw [By_len, By_len]) (Tryd.sizeH (z0)) (By_one _) ?_; intro w9 hbk9 hu9; have hb9 := room_below HM.out hu9; have XX_ := hide (XX.out.kept hb9); have ZZ_ := hide (ZZ.out.kept hb9); have TT_ := hide (TT.out.gr hb9); have UN_ := hide (UN.out.kept hb9); have LL_ : Hid (Below N w _) := (show _ from LL.out.trans (hb9.mono GG.out)); have GG_ : Hid (N ≤ _) := (show _ ≤ _ from Nat.le_trans GG.out hb9.size); clear hb9 XX ZZ TT UN LL GG; have XX := XX_; have ZZ := ZZ_; have TT := TT_; have UN := UN_; have LL := LL_; have GG := GG_; clear XX_ ZZ_ TT_ UN_ LL_ GG_; have VZ := hide hbk9; clear hbk9 hu9 HM)
        | fail)
      clear VZ
      go_upto_region 7 with (first
        | (go_at_call 13; refine (uitems_m (B := N) (takeM_all []) rfl (UN.out.all N) (by decide) GG.out).mono ?_; rintro e w9 ⟨pa3, lc3, rfl, o9, hb9⟩; have XX_ := hide (XX.out.kept hb9); have ZZ_ := hide (ZZ.out.kept hb9); have TT_ := hide (TT.out.gr hb9); have UN_ := hide (UN.out.kept hb9); have LL_ : Hid (Below N w _) := (show _ from LL.out.trans (hb9.mono GG.out)); have GG_ : Hid (N ≤ _) := (show _ ≤ _ from Nat.le_trans GG.out hb9.size); clear hb9 XX ZZ TT UN LL GG; have XX := XX_; have ZZ := ZZ_; have TT := TT_; have UN := UN_; have LL := LL_; have GG := GG_; clear XX_ ZZ_ TT_ UN_ LL_ GG_; have hcp3 := o9.rd.cap'; clear o9)
        | fail)
      have hq := eqAA z0
      go_wp2_with (first
        | (refine wpList_load_mid rfl 24 _ rfl (N) 0 rfl (By (x.1).1) _ (AEkey XX.out) Tryd.underlying24 rfl (Tryd.sizeH (x.1)) ?_)
        | (refine wpList_load_mid rfl 24 _ rfl (N) 32 rfl (By (x.2.1).1) _ (AEval XX.out) Tryd.underlying24 rfl (Tryd.sizeH (x.2.1)) ?_)
        | (refine wpList_load_w9 rfl 24 _ rfl (N) 0 rfl (By (x.1).1) _ (AEkey XX.out) Tryd.underlying24 rfl (Tryd.sizeH (x.1)) ?_)
        | (go_at_call 23; refine (uPut_any x.1 x.2.1 UN.out).mono ?_; rintro e w9 ⟨rfl, hb9⟩; have XX_ := hide (XX.out.kept hb9); have ZZ_ := hide (ZZ.out.kept hb9); have TT_ := hide (TT.out.gr hb9); have UN_ := hide (UN.out.kept hb9); have LL_ : Hid (Below N w _) := (show _ from LL.out.trans (hb9.mono GG.out)); have GG_ : Hid (N ≤ _) := (show _ ≤ _ from Nat.le_trans GG.out hb9.size); clear hb9 XX ZZ TT UN LL GG; have XX := XX_; have ZZ := ZZ_; have TT := TT_; have UN := UN_; have LL := LL_; have GG := GG_; clear XX_ ZZ_ TT_ UN_ LL_ GG_)
        | (go_at_call 24; refine (uDrop_any x.1 UN.out).mono ?_; rintro e w9 ⟨rfl, hb9⟩; have XX_ := hide (XX.out.kept hb9); have ZZ_ := hide (ZZ.out.kept hb9); have TT_ := hide (TT.out.gr hb9); have UN_ := hide (UN.out.kept hb9); have LL_ : Hid (Below N w _) := (show _ from LL.out.trans (hb9.mono GG.out)); have GG_ : Hid (N ≤ _) := (show _ ≤ _ from Nat.le_trans GG.out hb9.size); clear hb9 XX ZZ TT UN LL GG; have XX := XX_; have ZZ := ZZ_; have TT := TT_; have UN := UN_; have LL := LL_; have GG := GG_; clear XX_ ZZ_ TT_ UN_ LL_ GG_)
        | (go_at_call 17; refine (uLen_any UN.out).mono ?_; rintro e w9 ⟨rfl, hw9⟩; subst w9)
        | (go_at_call 15; refine (uRoot_any HZ0.out UN.out).mono ?_; rintro e w9 ⟨rfl, hb9⟩; have XX_ := hide (XX.out.kept hb9); have ZZ_ := hide (ZZ.out.kept hb9); have TT_ := hide (TT.out.gr hb9); have UN_ := hide (UN.out.kept hb9); have LL_ : Hid (Below N w _) := (show _ from LL.out.trans (hb9.mono GG.out)); have GG_ : Hid (N ≤ _) := (show _ ≤ _ from Nat.le_trans GG.out hb9.size); clear hb9 XX ZZ TT UN LL GG; have XX := XX_; have ZZ := ZZ_; have TT := TT_; have UN := UN_; have LL := LL_; have GG := GG_; clear XX_ ZZ_ TT_ UN_ LL_ GG_)
        | (refine wpList_build_w9 rfl 24 _ rfl (.agg (By z0.1).toArray) (by rw [← HZ0.out]; kernel_rfl) ?_)
        | fail)
      go_roundg (2 - 1)
      case measure => omega
      case rel => exact ⟨2, by omega, by omega, by go_num, XX, ZZ, TT, LL, GG⟩
    · skip
      go_wp2_with (first
        | (go_at_call 9; refine (ulives_any _ TT.out).mono ?_; rintro e w9 ⟨rfl, hb9⟩; have TT_ := hide (TT.out.gr hb9); have LL_ : Hid (Below N w _) := (show _ from LL.out.trans (hb9.mono GG.out)); have GG_ : Hid (N ≤ _) := (show _ ≤ _ from Nat.le_trans GG.out hb9.size); clear hb9 TT LL GG; have TT := TT_; have LL := LL_; have GG := GG_; clear TT_ LL_ GG_)
        | fail)
      go_ret
      exact ⟨rfl, LL.out⟩
#print axioms trieNone_any
end Go.Proofs.YtnomlnedincfjaaDoor
