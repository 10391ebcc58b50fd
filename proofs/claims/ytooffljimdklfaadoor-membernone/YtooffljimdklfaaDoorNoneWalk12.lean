/-
  The law MemberNone: the call returns true.
-/
import Derived.Test.YtooffljimdklfaaDoorLawX12
namespace Go.Proofs.YtooffljimdklfaaDoor
open Go.RowKit
/-- A Trie that is nobody's: nil, or one that was not made. -/
def Un (w : World) (v : Value) : Prop := v = .pointer none ∨ ∃ (p : Nat) (x y : Value), v = PT p ∧ Blk w p 60 [.bool false, x, y]
theorem Un.kept {w w' : World} {v : Value} (h : Un w v) (hb : Below w.heap.size w w') : Un w' v := by
  rcases h with h | ⟨p, x, y, e, hB⟩
  · exact .inl h
  · exact .inr ⟨p, x, y, e, hB.kept hb⟩
theorem Un.made {w : World} {q : Option Addr} (h : Un w (.pointer q)) : Calls Tryd.prog 41 #[.pointer q] w fun e w' => e = .returned (.bool false) ∧ w' = w := by
  rcases h with h | ⟨p, x, y, e, hB⟩
  · rw [h]; exact tisMade_nil w
  · rw [e]; exact tisMade_any hB
set_option maxHeartbeats 2000000 in
set_option maxRecDepth 100000 in
theorem uLen_any {w : World} {q : Option Addr} (h : Un w (.pointer q)) : Calls Tryd.prog 48 #[.pointer q] w fun e w' => e = .returned (.int .i64 0) ∧ w' = w := by
  have CM := hide h.made
  clear h
  go_enter Tryd.func48, Tryd.ntmps48
  go_wp2_with (first
    | (go_at_call 41; refine CM.out.mono ?_; rintro e w' ⟨rfl, hw'⟩; subst w')
    | fail)
  go_ret
  exact ⟨rfl, rfl⟩
set_option maxHeartbeats 2000000 in
set_option maxRecDepth 100000 in
theorem uAll_any {w : World} {q : Option Addr} (h : Un w (.pointer q)) : Calls Tryd.prog 49 #[.pointer q] w fun e w' => ∃ E, e = .returned (.func (.func 63) #[] #[PT E]) ∧ w.heap.size ≤ E ∧ Blk w' E 58 [.pointer none] ∧ Below w.heap.size w w' := by
  obtain ⟨N, HN⟩ : ∃ N, Hid (w.heap.size = N) := ⟨_, rfl⟩
  have HU := hide h
  clear h
  have hmf : ∀ (fn : Fn) (first cap : Array Value) (w : World), (Instr.makeFunc fn first cap).run Tryd.prog w = .ok (.func fn first cap) w := fun _ _ _ _ => rfl
  rw [HN.out]
  go_enter Tryd.func49, Tryd.ntmps49
  go_upto_region 2 with fail
  obtain ⟨w1, hw1⟩ : ∃ z, z = w.alloc (.cells #[.pointer none] 58 (0, 0)) := ⟨_, rfl⟩
  change Code.wp _ _ _ _ (w.alloc (.cells #[.pointer none] 58 (0, 0)))
  rw [← hw1, HN.out]
  have B1 : Hid (Blk w1 N 58 [.pointer none]) := (show Blk _ _ _ _ by rw [hw1, ← HN.out]; exact Blk.new w 58 [.pointer none])
  have L1 : Hid (Below N w w1) := (show Below _ _ _ by rw [hw1, ← HN.out]; exact (Below.refl _ _).alloc (Nat.le_refl _) _)
  clear hw1
  have CM := hide (HU.out.kept (L1.out.mono (Nat.le_of_eq HN.out))).made
  go_wp2_with (first
    | (go_at_call 41; refine CM.out.mono ?_; rintro e w' ⟨rfl, hw'⟩; subst w')
    | fail)
  go_ret
  exact ⟨N, rfl, Nat.le_refl _, B1.out, L1.out⟩
theorem Un.all {w : World} {q : Option Addr} (h : Un w (.pointer q)) (B0 : Nat) : AllOk B0 w (.pointer q) [] := ⟨none, .inl ⟨rfl, rfl⟩, fun _ hW => uAll_any (h.kept hW)⟩
theorem Un.map {w : World} {q : Option Addr} (h : Un w (.pointer q)) (B0 : Nat) : MapOk B0 w (.pointer q) [] := ⟨h.all B0, fun _ hW => uLen_any (h.kept hW)⟩
set_option maxHeartbeats 4000000 in
set_option maxRecDepth 100000 in
theorem memberNone_any (k : Hs) (w : World) (hT : Tabs w) : Calls Tryd.prog 7 #[HV k] w fun e w' => e = .returned (.bool true) ∧ Below w.heap.size w w' := by
  obtain ⟨N, HN⟩ : ∃ N, Hid (w.heap.size = N) := ⟨_, rfl⟩
  have h2 : 2 ≤ N := by rw [← HN.out]; exact hT.size
  have HT := hide hT
  clear hT
  rw [HN.out]
  have hbe := build_rproof0
  go_enter Tryd.func7, Tryd.ntmps7
  unfold HV
  go_upto_region 2 with fail
  obtain ⟨w1, hw1⟩ : ∃ z, z = (w.alloc (.cells (By k.1).toArray 24 (0, 0))).alloc (.cells [.bool false, .pointer none, .int .i64 0].toArray 60 (0, 0)) := ⟨_, rfl⟩
  change Code.wp _ _ _ _ ((w.alloc (.cells (By k.1).toArray 24 (0, 0))).alloc (.cells [.bool false, .pointer none, .int .i64 0].toArray 60 (0, 0)))
  rw [← hw1, HN.out]
  obtain ⟨b0, b1, lb, -⟩ := box2 HN hw1
  have KK := hide b0
  have ZZ := hide b1
  have LL := hide lb
  clear hw1 b0 b1 lb
  have GG : Hid (N ≤ w1.heap.size) := (show _ ≤ _ from Nat.le_of_lt KK.out.lt)
  have TT := hide (HT.out.kept (LL.out.mono h2))
  go_wp2_with (first
    | (refine wpList_load_mid rfl 24 _ rfl (N) 0 rfl (By (k).1) _ (KK.out.range0) Tryd.underlying24 rfl (Tryd.sizeH (k)) ?_)
    | fail)
  refine (bProve_any (B0 := N) (L := []) (pr := zp) (ln := 0) k rfl rfl ((show Un _ (.pointer none) from .inl rfl).map N) (by simp) Srt_nil TT.out).mono ?_
  rintro e w9 ⟨a1, c1, rfl, o9, hb9⟩
  have KK_ := hide (KK.out.kept hb9)
  have ZZ_ := hide (ZZ.out.kept hb9)
  have TT_ := hide (TT.out.gr hb9)
  have LL_ : Hid (Below N w _) := (show _ from LL.out.trans (hb9.mono GG.out))
  have GG_ : Hid (N ≤ _) := (show _ ≤ _ from Nat.le_trans GG.out hb9.size)
  clear hb9 KK ZZ TT LL GG
  have KK := KK_
  have ZZ := ZZ_
  have TT := TT_
  have LL := LL_
  have GG := GG_
  clear KK_ ZZ_ TT_ LL_ GG_
  have O1 := hide o9
  clear o9
  go_wp2_with fail
  refine (plain_m (B := N) (p := zp) (ln := 0) rfl O1.out.rd (by omega) GG.out).mono ?_
  rintro e w9 ⟨a2, c2, rfl, o9, hb9⟩
  have KK_ := hide (KK.out.kept hb9)
  have ZZ_ := hide (ZZ.out.kept hb9)
  have TT_ := hide (TT.out.gr hb9)
  have O1_ := hide (O1.out.kept hb9)
  have LL_ : Hid (Below N w _) := (show _ from LL.out.trans (hb9.mono GG.out))
  have GG_ : Hid (N ≤ _) := (show _ ≤ _ from Nat.le_trans GG.out hb9.size)
  clear hb9 KK ZZ TT O1 LL GG
  have KK := KK_
  have ZZ := ZZ_
  have TT := TT_
  have O1 := O1_
  have LL := LL_
  have GG := GG_
  clear KK_ ZZ_ TT_ O1_ LL_ GG_
  have O2 := hide o9
  clear o9
  go_wp2_with (first
    | (refine wpList_build rfl 35 _ rfl (.agg (PrC (.slice none 0 0) zp).toArray) (by simp only [execOp, List.map_toArray, List.map_nil, Sem.run_bind, Sem.run_pure]; exact congrArg (fun r => Result.andThen r _) (hbe _)) ?_)
    | fail)
  refine (esame_any (p := zp) O2.out.rd (RdG_nil _)).mono ?_
  rintro e w9 ⟨rfl, hb9⟩
  have KK_ := hide (KK.out.kept hb9)
  have ZZ_ := hide (ZZ.out.kept hb9)
  have TT_ := hide (TT.out.gr hb9)
  have O1_ := hide (O1.out.kept hb9)
  have O2_ := hide (O2.out.kept hb9)
  have LL_ : Hid (Below N w _) := (show _ from LL.out.trans (hb9.mono GG.out))
  have GG_ : Hid (N ≤ _) := (show _ ≤ _ from Nat.le_trans GG.out hb9.size)
  clear hb9 KK ZZ TT O1 O2 LL GG
  have KK := KK_
  have ZZ := ZZ_
  have TT := TT_
  have O1 := O1_
  have O2 := O2_
  have LL := LL_
  have GG := GG_
  clear KK_ ZZ_ TT_ O1_ O2_ LL_ GG_
  go_wp2_with (first
    | (refine wpList_load_w9 rfl 24 _ rfl (N) 0 rfl (By (k).1) _ (KK.out.range0) Tryd.underlying24 rfl (Tryd.sizeH (k)) ?_)
    | fail)
  refine (bProve_any (B0 := N) (L := []) (pr := zp) (ln := 0) k rfl rfl ((show Un _ (PT (N + 1)) from .inr ⟨_, _, _, rfl, ZZ.out⟩).map N) (by simp) Srt_nil TT.out).mono ?_
  rintro e w9 ⟨a3, c3, rfl, o9, hb9⟩
  have KK_ := hide (KK.out.kept hb9)
  have ZZ_ := hide (ZZ.out.kept hb9)
  have TT_ := hide (TT.out.gr hb9)
  have O1_ := hide (O1.out.kept hb9)
  have O2_ := hide (O2.out.kept hb9)
  have LL_ : Hid (Below N w _) := (show _ from LL.out.trans (hb9.mono GG.out))
  have GG_ : Hid (N ≤ _) := (show _ ≤ _ from Nat.le_trans GG.out hb9.size)
  clear hb9 KK ZZ TT O1 O2 LL GG
  have KK := KK_
  have ZZ := ZZ_
  have TT := TT_
  have O1 := O1_
  have O2 := O2_
  have LL := LL_
  have GG := GG_
  clear KK_ ZZ_ TT_ O1_ O2_ LL_ GG_
  have O3 := hide o9
  clear o9
  go_wp2_with fail
  refine (plain_m (B := N) (p := zp) (ln := 0) rfl O3.out.rd (by omega) GG.out).mono ?_
  rintro e w9 ⟨a4, c4, rfl, o9, hb9⟩
  have KK_ := hide (KK.out.kept hb9)
  have ZZ_ := hide (ZZ.out.kept hb9)
  have TT_ := hide (TT.out.gr hb9)
  have O1_ := hide (O1.out.kept hb9)
  have O2_ := hide (O2.out.kept hb9)
  have O3_ := hide (O3.out.kept hb9)
  have LL_ : Hid (Below N w _) := (show _ from LL.out.trans (hb9.mono GG.out))
  have GG_ : Hid (N ≤ _) := (show _ ≤ _ from Nat.le_trans GG.out hb9.size)
  clear hb9 KK ZZ TT O1 O2 O3 LL GG
  have KK := KK_
  have ZZ := ZZ_
  have TT := TT_
  have O1 := O1_
  have O2 := O2_
  have O3 := O3_
  have LL := LL_
  have GG := GG_
  clear KK_ ZZ_ TT_ O1_ O2_ O3_ LL_ GG_
  have O4 := hide o9
  clear o9
  go_wp2_with (first
    | (refine wpList_build_w9 rfl 35 _ rfl (.agg (PrC (.slice none 0 0) zp).toArray) (by simp only [execOp, List.map_toArray, List.map_nil, Sem.run_bind, Sem.run_pure]; exact congrArg (fun r => Result.andThen r _) (hbe _)) ?_)
    | fail)
  refine (esame_any (p := zp) O4.out.rd (RdG_nil _)).mono ?_
  rintro e w9 ⟨rfl, hb9⟩
  have KK_ := hide (KK.out.kept hb9)
  have ZZ_ := hide (ZZ.out.kept hb9)
  have TT_ := hide (TT.out.gr hb9)
  have O1_ := hide (O1.out.kept hb9)
  have O2_ := hide (O2.out.kept hb9)
  have O3_ := hide (O3.out.kept hb9)
  have O4_ := hide (O4.out.kept hb9)
  have LL_ : Hid (Below N w _) := (show _ from LL.out.trans (hb9.mono GG.out))
  have GG_ : Hid (N ≤ _) := (show _ ≤ _ from Nat.le_trans GG.out hb9.size)
  clear hb9 KK ZZ TT O1 O2 O3 O4 LL GG
  have KK := KK_
  have ZZ := ZZ_
  have TT := TT_
  have O1 := O1_
  have O2 := O2_
  have O3 := O3_
  have O4 := O4_
  have LL := LL_
  have GG := GG_
  clear KK_ ZZ_ TT_ O1_ O2_ O3_ O4_ LL_ GG_
  go_wp2_with fail
  refine (ilives_any _ TT.out).mono ?_
  rintro e w9 ⟨rfl, hb9⟩
  have KK_ := hide (KK.out.kept hb9)
  have ZZ_ := hide (ZZ.out.kept hb9)
  have TT_ := hide (TT.out.gr hb9)
  have O1_ := hide (O1.out.kept hb9)
  have O2_ := hide (O2.out.kept hb9)
  have O3_ := hide (O3.out.kept hb9)
  have O4_ := hide (O4.out.kept hb9)
  have LL_ : Hid (Below N w _) := (show _ from LL.out.trans (hb9.mono GG.out))
  have GG_ : Hid (N ≤ _) := (show _ ≤ _ from Nat.le_trans GG.out hb9.size)
  clear hb9 KK ZZ TT O1 O2 O3 O4 LL GG
  have KK := KK_
  have ZZ := ZZ_
  have TT := TT_
  have O1 := O1_
  have O2 := O2_
  have O3 := O3_
  have O4 := O4_
  have LL := LL_
  have GG := GG_
  clear KK_ ZZ_ TT_ O1_ O2_ O3_ O4_ LL_ GG_
  go_wp2_with fail
  go_ret
  exact ⟨rfl, LL.out⟩
#print axioms memberNone_any
end Go.Proofs.YtooffljimdklfaaDoor
