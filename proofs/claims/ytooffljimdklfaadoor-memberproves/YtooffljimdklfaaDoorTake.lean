/-
  (*sha.State).take: what the call does.
-/
import Derived.Test.YtooffljimdklfaaDoorHolds
import Derived.Test.YtooffljimdklfaaDoorMix
namespace Go.Proofs.YtooffljimdklfaaDoor
open Go.RowKit
theorem slice134 (g r : Nat) (hr : r < 64) (W : World) : (Instr.sliceAt 134 (.pointer (some ⟨g, 9, none⟩)) (some (.int .i64 (r : Int))) none none).run Tryd.prog W = .ok (.slice (some ⟨g, 9 + r, none⟩) (64 - r) (64 - r)) W := by
  have h9 : (r : Int) ≤ 64 := by omega
  have hn : ¬ 64 = r := by omega
  simp [Instr.sliceAt, Instr.sureAddr, run_underlying Tryd.underlying134, Instr.sliceBounds, run_sliceBound, h9, hn, Addr.add_lit]
theorem slice134w (g : Nat) (W : World) : (Instr.sliceAt 134 (.pointer (some ⟨g, 9, none⟩)) none none none).run Tryd.prog W = .ok (.slice (some ⟨g, 9, none⟩) 64 64) W := by
  simp [Instr.sliceAt, Instr.sureAddr, run_underlying Tryd.underlying134, Instr.sliceBounds, Addr.add_lit]
theorem rd_block {w : World} {bs : Nat} {mm : Bool} {h : List W} {k : List UInt8} {n : Nat} (hB : Blk w bs 137 (SC mm h k n)) (hh : h.length = 8) (hk : k.length = 64) : Rd w (.slice (some ⟨bs, 9, none⟩) 64 64) k := by
  refine ⟨_, 64, by rw [hk], by omega, by simp [maxLen], fun h => by simp at h, fun _ => ⟨bs, 9, rfl, hB.lt, fun j u hj => ?_⟩⟩
  have hj' : j < k.length := by have := (List.getElem?_eq_some_iff.1 hj).1; rwa [By_length] at this
  rw [hB.cell (SC_byte hh j hj'), ← hj, By_get hj']
  simp [gB, List.getD, hj']
set_option maxHeartbeats 1000000 in
set_option maxRecDepth 100000 in
theorem take_any (v : Value) (l m : List UInt8) (bs : Nat) (mm : Bool) (h : List W) (k : List UInt8) (hH : Holds h k m) (hn : m.length + l.length < 9223372036854775808) (w : World)
    (hT : Tabs w) (hB : Blk w bs 137 (SC mm h k m.length)) (hr : Rd w v l) (ho : Off bs v) (h2 : 2 ≤ bs) :
    Calls Tryd.prog 75 #[.pointer (some ⟨bs, 0, none⟩), v] w fun e w' => e = .returned (.tuple #[]) ∧ But bs w w' ∧ ∃ h' k', Blk w' bs 137 (SC mm h' k' (m ++ l).length) ∧ Holds h' k' (m ++ l) := by
  have HT : Hid (Tabs w) := hT
  have HB : Hid (Blk w bs 137 (SC mm h k m.length)) := hB
  have HR : Hid (Rd w v l) := hr
  have HO : Hid (Off bs v) := ho
  have HH : Hid (Holds h k m) := hH
  have hhl : h.length = 8 := by rw [hH.words]; exact blks_length _ blk_length _
  have hkl : k.length = 64 := hH.size
  have c73 := hB.cell (SC_len hhl hkl)
  have z73 := hB.frozen 73
  obtain ⟨a, cap, rfl, h1, hc2, h3, h4⟩ := hr
  clear hT hB ho hH h4
  obtain ⟨M, HM⟩ : ∃ M, Hid (m ++ l = M) := ⟨_, rfl⟩
  have HML : Hid (M.length = m.length + l.length) := (show _ = _ by rw [← HM.out, List.length_append])
  rw [HM.out]
  obtain ⟨r, HRR⟩ : ∃ r, Hid (r = m.length % 64) := ⟨_, rfl⟩
  have hrlt : r < 64 := by have := HRR.out; omega
  have E1 : Hid ((m.length : Int) % 64 = (r : Int)) := (show _ = _ by have := HRR.out; omega)
  go_enter Tryd.func75, Tryd.ntmps75
  go_upto_region 2 with fail
  rw [E1.out]
  obtain ⟨w1, hw1⟩ : ∃ x, x = w.setCell ⟨bs, 73, none⟩ (.int .u64 ((m.length : Int) + (l.length : Int))) := ⟨_, rfl⟩
  rw [← hw1]
  have B1 : Hid (Blk w1 bs 137 (SC mm h k M.length)) := (show Blk _ _ _ _ by
    have := HB.out.set 73 (.int .u64 ((M.length : Nat) : Int))
    rw [SC_set_len hhl hkl] at this
    rw [hw1]
    rw [HML.out] at this ⊢
    exact this)
  have U1 : Hid (But bs w w1) := (show But _ _ _ by rw [hw1]; exact But.setCell bs w _ _)
  have R1 : Hid (Rd w1 (.slice a l.length cap) l) := HR.out.but U1.out HO.out
  clear hw1 c73 z73 HB HR
  by_cases hr0 : 0 < r
  · have q1 : (0 : Int) < (r : Int) := by omega
    have hs1 := slice134 bs r hrlt
    obtain ⟨X, HX⟩ : ∃ X, Hid (l.take (64 - r) = X) := ⟨_, rfl⟩
    by_cases hfew : r + l.length < 64
    · have HXl : Hid (X = l) := (show _ = _ by rw [← HX.out, List.take_of_length_le (by omega)])
      have HXn : Hid (X.length = l.length) := (show _ = _ by rw [HXl.out])
      have q2 : (r : Int) + (l.length : Int) < 64 := by omega
      obtain ⟨a2, hs2, H2, H3⟩ := slice_from Tryd.underlying118 Tryd.size5 a l.length cap l.length (Nat.le_refl _) h1
      clear H2 H3
      go_wp2_with (first
        | (refine wpList_copy_bytes rfl (.tmp 28) (.tmp 29) 118 118 rfl 5 Tryd.underlying118 Tryd.size5 bs (9 + r) (64 - r) (64 - r) (.slice a l.length cap) l rfl rfl R1.out X l.length HX.out HXn.out 137 _ B1.out (by rw [SC_length hhl hkl]; omega) ?_)
        | fail)
      refine bodyPost_ret (results_none rfl _ _ _) rfl ?_
      refine ⟨rfl, U1.out.trans (But.setCells bs _ _ _), h, k.take r ++ X ++ k.drop (r + X.length), ?_, ?_⟩
      · have := Blk.over (By X) B1.out (9 + r) (by rw [SC_length hhl hkl, By_length, HXn.out]; omega)
        rw [SC_over hhl hkl r X (by rw [HXn.out]; omega)] at this
        exact this
      · rw [HXl.out, HRR.out, ← HM.out]
        exact holds_few HH.out (by rw [← HRR.out]; exact hfew)
    · have HXn : Hid (X.length = 64 - r) := (show _ = _ by rw [← HX.out, List.length_take]; omega)
      obtain ⟨c, HC⟩ : ∃ c, Hid (64 - r = c) := ⟨_, rfl⟩
      have hcl : c ≤ l.length := by have := HC.out; omega
      have q2 : 64 ≤ r + c := by have := HC.out; omega
      have q3 : c ≤ 64 := by have := HC.out; omega
      obtain ⟨a2, hs2, H2, H3⟩ := slice_from Tryd.underlying118 Tryd.size5 a l.length cap c hcl h1
      have H2 : Hid _ := H2
      have H3 : Hid _ := H3
      have hs0 := slice134w bs
      go_wp2_with (first
        | (refine wpList_copy_bytes rfl (.tmp 28) (.tmp 29) 118 118 rfl 5 Tryd.underlying118 Tryd.size5 bs (9 + r) (64 - r) (64 - r) (.slice a l.length cap) l rfl rfl R1.out X c HX.out (HXn.out.trans HC.out) 137 _ B1.out (by rw [SC_length hhl hkl]; omega) ?_)
        | fail)
      obtain ⟨k1, HK1⟩ : ∃ k1, Hid (k.take r ++ X = k1) := ⟨_, rfl⟩
      have hk1 : k1.length = 64 := by rw [← HK1.out, List.length_append, HXn.out, List.length_take]; omega
      obtain ⟨wa, hwa⟩ : ∃ x, x = w1.setCells bs (9 + r) (By X) := ⟨_, rfl⟩
      rw [← hwa]
      have Ua : Hid (But bs w1 wa) := (show But _ _ _ by rw [hwa]; exact But.setCells bs _ _ _)
      have Ba : Hid (Blk wa bs 137 (SC mm h k1 M.length)) := (show Blk _ _ _ _ by
        have := Blk.over (By X) B1.out (9 + r) (by rw [SC_length hhl hkl, By_length, HXn.out]; omega)
        rw [SC_over hhl hkl r X (by rw [HXn.out]; omega), HK1.out, List.drop_eq_nil_of_le (by rw [hkl, HXn.out]; omega), List.append_nil] at this
        rw [hwa]; exact this)
      clear hwa
      refine wp_region_still_tail 7 Tryd.mixed (by kernel_rfl) ?_
      simp only [List.take_succ_cons, List.take_zero, List.drop_succ_cons, List.drop_zero]
      repeat still_step
      refine wpStill_nil ?_
      go_wp2_with fail
      refine (mix_any (.slice (some ⟨bs, 9, none⟩) 64 64) k1 bs mm h k1 M.length hk1 hhl _ (HT.out.but ((U1.out.trans Ua.out).trans (But.drew _ _)) h2) Ba.out.drew (rd_block Ba.out.drew hhl hk1) h2).mono ?_
      rintro e w2 ⟨rfl, hu2, hb2⟩
      have U2' : Hid (But bs w1 w2) := (Ua.out.trans (But.drew bs wa)).trans hu2
      have U2 : Hid (But bs w w2) := U1.out.trans U2'.out
      have B2 : Hid (Blk w2 bs 137 (SC mm (blks M (m.length / 64 + 1)) k1 M.length)) := (show Blk _ _ _ _ by
        have := full_words (l := l) HH.out
        rw [HM.out, ← HRR.out, HX.out, HK1.out] at this
        rw [← this]; exact hb2)
      have R2 : Hid (Rd w2 (.slice a2 (l.length - c) (cap - c)) (M.drop (64 * (m.length / 64 + 1)))) := (show Rd _ _ _ by
        have := (H2.out w1 _ R1.out).but U2'.out (H3.out w1 _ bs R1.out HO.out)
        have e := full_rest m l
        rw [HM.out, ← HRR.out, HC.out] at e
        rwa [e] at this)
      have O2 : Hid (Off bs (.slice a2 (l.length - c) (cap - c))) := H3.out w1 _ bs R1.out HO.out
      have hj2 : 64 * (m.length / 64 + 1) ≤ M.length := by have := HRR.out; rw [HML.out]; omega
      clear hu2 hb2 Ba Ua R1 B1
      have hk2 := hk1
      go_wp2
      go_loopg [1] (M.length + 1) (fun g z wr => ∃ (j : Nat) (a' : Option Addr) (n' cap' : Nat) (k' : List UInt8), z = .slice a' n' cap' ∧ Hid (But bs w wr) ∧ Hid (Blk wr bs 137 (SC mm (blks M j) k' M.length)) ∧ k'.length = 64 ∧ Hid (Rd wr (.slice a' n' cap') (M.drop (64 * j))) ∧ Hid (Off bs (.slice a' n' cap')) ∧ Hid (64 * j ≤ M.length ∧ g + j = M.length + 1 + (m.length / 64 + 1)))
      case atStart => exact ⟨(m.length / 64 + 1), _, _, _, k1, rfl, U2, B2, hk2, R2, O2, ⟨hj2, by omega⟩⟩
      case round =>
        clear B2 R2 O2 U2
        obtain ⟨j, a', n', cap', k', rfl, U2, B2, hk2, R2, O2, HJ⟩ := hrel
        have hbl : (blks M j).length = 8 := blks_length _ blk_length _
        have hnl : (M.drop (64 * j)).length = n' := rd_len R2.out
        have hcap : n' ≤ cap' := rd_cap R2.out
        have hcm : cap' ≤ maxLen := rd_max R2.out
        have hs0 := slice134w bs
        have HJ1 := HJ.out.1
        have HNL : Hid (M.length - 64 * j = n') := (show _ = _ by rw [← hnl, List.length_drop])
        clear hnl HJ1
        by_cases hge : 64 ≤ n'
        · have q1 : (64 : Int) ≤ (n' : Int) := by omega
          have hs1 : ∀ W, (Instr.sliceAt 118 (.slice a' n' cap') none (some (.int .i64 64)) none).run Tryd.prog W = .ok (.slice a' 64 cap') W := slice_to Tryd.underlying118 Tryd.size5 a' n' cap' 64 hge hcap (by omega) wr _ R2.out
          obtain ⟨a2, hs2, H2, H3⟩ := slice_from Tryd.underlying118 Tryd.size5 a' n' cap' 64 hge hcap
          have hs2 : ∀ W, (Instr.sliceAt 118 (.slice a' n' cap') (some (.int .i64 64)) none none).run Tryd.prog W = .ok (.slice a2 (n' - 64) (cap' - 64)) W := hs2
          have H2 : Hid _ := H2
          have H3 : Hid _ := H3
          go_wp2_with fail
          refine wp_region_still_tail 5 Tryd.mixed (by kernel_rfl) ?_
          simp only [List.take_succ_cons, List.take_zero, List.drop_succ_cons, List.drop_zero]
          repeat still_step
          refine wpStill_nil ?_
          go_wp2_with fail
          refine (mix_any (.slice a' 64 cap') ((M.drop (64 * j)).take 64) bs mm (blks M j) k' M.length (by have := HNL.out; rw [List.length_take, List.length_drop]; omega) hbl _ (HT.out.but (U2.out.trans (But.drew _ _)) h2) B2.out.drew ((R2.out.take 64 hge).but (But.drew bs _) (O2.out.len 64 (by omega) (by omega))) h2).mono ?_
          rintro e w3 ⟨rfl, hu3, hb3⟩
          have U3 : Hid (But bs wr w3) := (But.drew bs wr).trans hu3
          have B3 : Hid (Blk w3 bs 137 (SC mm (blks M (j + 1)) k' M.length)) := hb3
          have R3 : Hid (Rd w3 (.slice a2 (n' - 64) (cap' - 64)) (M.drop (64 * (j + 1)))) := (show Rd _ _ _ by
            have := (H2.out wr _ R2.out).but U3.out (H3.out wr _ bs R2.out O2.out)
            rwa [List.drop_drop] at this)
          have O3 : Hid (Off bs (.slice a2 (n' - 64) (cap' - 64))) := H3.out wr _ bs R2.out O2.out
          clear hu3 hb3
          go_wp2
          go_roundg (gk - 1)
          case measure => have := HJ.out; have := HNL.out; omega
          case rel => exact ⟨j + 1, _, _, _, k', rfl, U2.out.trans U3.out, B3, hk2, R3, O3, ⟨by have := HJ.out; have := HNL.out; omega, by have := HJ.out; have := HNL.out; omega⟩⟩
        · have q1 : ¬ (64 : Int) ≤ (n' : Int) := by omega
          have hlt : (M.drop (64 * j)).length < 64 := by have := HNL.out; rw [List.length_drop]; omega
          obtain ⟨X, HX⟩ : ∃ X, Hid ((M.drop (64 * j)).take 64 = X) := ⟨_, rfl⟩
          have HX2 : Hid (M.drop (64 * j) = X) := (show _ = _ by rw [← HX.out, List.take_of_length_le (by omega)])
          have HXn : Hid (X.length = n') := (show _ = _ by rw [← HX2.out, List.length_drop]; exact HNL.out)
          go_wp2_with (first
            | (refine wpList_copy_bytes rfl (.tmp 60) (.tmp 61) 118 118 rfl 5 Tryd.underlying118 Tryd.size5 bs 9 64 64 (.slice a' n' cap') _ rfl rfl R2.out X n' HX.out HXn.out 137 _ B2.out (by rw [SC_length hbl hk2]; omega) ?_)
            | fail)
          go_end0
          refine ⟨rfl, U2.out.trans (But.setCells bs _ _ _), blks M j, X ++ k'.drop X.length, ?_, ?_⟩
          · have := Blk.over (By X) B2.out 9 (by rw [SC_length hbl hk2, By_length, HXn.out]; omega)
            rw [show (9 : Nat) = 9 + 0 from rfl, SC_over hbl hk2 0 X (by rw [HXn.out]; omega)] at this
            simpa using this
          · have := holds_end M k' j hk2 HJ.out.1 hlt
            rw [HX2.out] at this
            exact this
  · obtain rfl : r = 0 := by omega
    have hs0 := slice134w bs
    have U2 : Hid (But bs w w1) := U1
    have B2 : Hid (Blk w1 bs 137 (SC mm (blks M (m.length / 64)) k M.length)) := (show Blk _ _ _ _ by
      have := none_words l HH.out
      rw [HM.out] at this
      rw [← this]; exact B1.out)
    have R2 : Hid (Rd w1 (.slice a l.length cap) (M.drop (64 * (m.length / 64)))) := (show Rd _ _ _ by
      have := none_rest m l HRR.out.symm
      rw [HM.out] at this
      rw [← this]; exact R1.out)
    have O2 : Hid (Off bs (.slice a l.length cap)) := HO
    have hj2 : 64 * (m.length / 64) ≤ M.length := by rw [HML.out]; omega
    clear R1 B1
    have hk2 := hkl
    go_wp2
    go_loopg [1] (M.length + 1) (fun g z wr => ∃ (j : Nat) (a' : Option Addr) (n' cap' : Nat) (k' : List UInt8), z = .slice a' n' cap' ∧ Hid (But bs w wr) ∧ Hid (Blk wr bs 137 (SC mm (blks M j) k' M.length)) ∧ k'.length = 64 ∧ Hid (Rd wr (.slice a' n' cap') (M.drop (64 * j))) ∧ Hid (Off bs (.slice a' n' cap')) ∧ Hid (64 * j ≤ M.length ∧ g + j = M.length + 1 + (m.length / 64)))
    case atStart => exact ⟨(m.length / 64), _, _, _, k, rfl, U2, B2, hk2, R2, O2, ⟨hj2, by omega⟩⟩
    case round =>
      clear B2 R2 O2 U2
      obtain ⟨j, a', n', cap', k', rfl, U2, B2, hk2, R2, O2, HJ⟩ := hrel
      have hbl : (blks M j).length = 8 := blks_length _ blk_length _
      have hnl : (M.drop (64 * j)).length = n' := rd_len R2.out
      have hcap : n' ≤ cap' := rd_cap R2.out
      have hcm : cap' ≤ maxLen := rd_max R2.out
      have hs0 := slice134w bs
      have HJ1 := HJ.out.1
      have HNL : Hid (M.length - 64 * j = n') := (show _ = _ by rw [← hnl, List.length_drop])
      clear hnl HJ1
      by_cases hge : 64 ≤ n'
      · have q1 : (64 : Int) ≤ (n' : Int) := by omega
        have hs1 : ∀ W, (Instr.sliceAt 118 (.slice a' n' cap') none (some (.int .i64 64)) none).run Tryd.prog W = .ok (.slice a' 64 cap') W := slice_to Tryd.underlying118 Tryd.size5 a' n' cap' 64 hge hcap (by omega) wr _ R2.out
        obtain ⟨a2, hs2, H2, H3⟩ := slice_from Tryd.underlying118 Tryd.size5 a' n' cap' 64 hge hcap
        have hs2 : ∀ W, (Instr.sliceAt 118 (.slice a' n' cap') (some (.int .i64 64)) none none).run Tryd.prog W = .ok (.slice a2 (n' - 64) (cap' - 64)) W := hs2
        have H2 : Hid _ := H2
        have H3 : Hid _ := H3
        go_wp2_with fail
        refine wp_region_still_tail 5 Tryd.mixed (by kernel_rfl) ?_
        simp only [List.take_succ_cons, List.take_zero, List.drop_succ_cons, List.drop_zero]
        repeat still_step
        refine wpStill_nil ?_
        go_wp2_with fail
        refine (mix_any (.slice a' 64 cap') ((M.drop (64 * j)).take 64) bs mm (blks M j) k' M.length (by have := HNL.out; rw [List.length_take, List.length_drop]; omega) hbl _ (HT.out.but (U2.out.trans (But.drew _ _)) h2) B2.out.drew ((R2.out.take 64 hge).but (But.drew bs _) (O2.out.len 64 (by omega) (by omega))) h2).mono ?_
        rintro e w3 ⟨rfl, hu3, hb3⟩
        have U3 : Hid (But bs wr w3) := (But.drew bs wr).trans hu3
        have B3 : Hid (Blk w3 bs 137 (SC mm (blks M (j + 1)) k' M.length)) := hb3
        have R3 : Hid (Rd w3 (.slice a2 (n' - 64) (cap' - 64)) (M.drop (64 * (j + 1)))) := (show Rd _ _ _ by
          have := (H2.out wr _ R2.out).but U3.out (H3.out wr _ bs R2.out O2.out)
          rwa [List.drop_drop] at this)
        have O3 : Hid (Off bs (.slice a2 (n' - 64) (cap' - 64))) := H3.out wr _ bs R2.out O2.out
        clear hu3 hb3
        go_wp2
        go_roundg (gk - 1)
        case measure => have := HJ.out; have := HNL.out; omega
        case rel => exact ⟨j + 1, _, _, _, k', rfl, U2.out.trans U3.out, B3, hk2, R3, O3, ⟨by have := HJ.out; have := HNL.out; omega, by have := HJ.out; have := HNL.out; omega⟩⟩
      · have q1 : ¬ (64 : Int) ≤ (n' : Int) := by omega
        have hlt : (M.drop (64 * j)).length < 64 := by have := HNL.out; rw [List.length_drop]; omega
        obtain ⟨X, HX⟩ : ∃ X, Hid ((M.drop (64 * j)).take 64 = X) := ⟨_, rfl⟩
        have HX2 : Hid (M.drop (64 * j) = X) := (show _ = _ by rw [← HX.out, List.take_of_length_le (by omega)])
        have HXn : Hid (X.length = n') := (show _ = _ by rw [← HX2.out, List.length_drop]; exact HNL.out)
        go_wp2_with (first
          | (refine wpList_copy_bytes rfl (.tmp 60) (.tmp 61) 118 118 rfl 5 Tryd.underlying118 Tryd.size5 bs 9 64 64 (.slice a' n' cap') _ rfl rfl R2.out X n' HX.out HXn.out 137 _ B2.out (by rw [SC_length hbl hk2]; omega) ?_)
          | fail)
        go_end0
        refine ⟨rfl, U2.out.trans (But.setCells bs _ _ _), blks M j, X ++ k'.drop X.length, ?_, ?_⟩
        · have := Blk.over (By X) B2.out 9 (by rw [SC_length hbl hk2, By_length, HXn.out]; omega)
          rw [show (9 : Nat) = 9 + 0 from rfl, SC_over hbl hk2 0 X (by rw [HXn.out]; omega)] at this
          simpa using this
        · have := holds_end M k' j hk2 HJ.out.1 hlt
          rw [HX2.out] at this
          exact this
end Go.Proofs.YtooffljimdklfaaDoor
