/-
  indentureref03.Sum: what the call does.
-/
import Derived.Test.YtooffljimdklfaaDoorPadded
import Derived.Test.YtooffljimdklfaaDoorBlock
namespace Go.Proofs.YtooffljimdklfaaDoor
open Go.RowKit
theorem Tryd.sizeT23 : (Tryd.prog.info? 23).map (·.size) = some 32 := by kernel_rfl
theorem padded_div (l : List UInt8) : (l ++ padb l.length).length = 64 * ((l ++ padb l.length).length / 64) := by
  rw [List.length_append, padb_length]
  omega
set_option maxHeartbeats 2000000 in
set_option maxRecDepth 100000 in
theorem refSum_any (v : Value) (l : List UInt8) (hn : l.length ≤ 1099511627776) (w : World) (hr : Rd w v l) :
    Calls Tryd.prog 61 #[v] w fun e w' => e = .returned (.agg (By (sha l)).toArray) ∧ Below w.heap.size w w' := by
  have HR : Hid (Rd w v l) := hr
  clear hr
  obtain ⟨N, HN⟩ : ∃ N, Hid (w.heap.size = N) := ⟨_, rfl⟩
  obtain ⟨Z, HZ⟩ : ∃ Z, Hid (By (List.replicate 32 0) = Z) := ⟨_, rfl⟩
  have hzl : Z.length = 32 := by rw [← HZ.out]; rfl
  obtain ⟨D, HD⟩ : ∃ D, Hid (Ws H0 = D) := ⟨_, rfl⟩
  have hdl : D.length = 8 := by rw [← HD.out]; rfl
  have HD1 : Hid (∀ u ∈ D, u.oneCell' = true) := (show ∀ u ∈ D, _ by rw [← HD.out]; exact Ws_one _)
  go_enter Tryd.func61, Tryd.ntmps61
  go_upto_region 1 with fail
  rw [HN.out]
  change Code.wp _ _ _ _ (w.alloc (.cells (By (List.replicate 32 0)).toArray 23 (0, 0)))
  rw [HZ.out]
  obtain ⟨w1, hw1⟩ : ∃ x, x = w.alloc (.cells Z.toArray 23 (0, 0)) := ⟨_, rfl⟩
  rw [← hw1]
  have O1 : Hid (Blk w1 N 23 Z) := (show Blk _ _ _ _ by rw [hw1, ← HN.out]; exact Blk.new w 23 Z)
  have L1 : Hid (Below N w w1) := (show Below _ _ _ by rw [hw1]; exact (Below.refl _ _).alloc (by rw [HN.out]; exact Nat.le_refl _) _)
  have HN1 : Hid (w1.heap.size = N + 1) := (show _ = _ by rw [hw1]; simp [HN.out])
  clear hw1
  go_wp2_with (first
    | (refine wpList_buildK rfl 130 _ rfl (.agg (Ws H0).toArray) (by kernel_rfl) ?_; rw [HD.out])
    | (refine wpList_store_new rfl 130 _ _ rfl w1 _ _ _ rfl rfl rfl (by simpa [hdl] using Tryd.size130) (by simp [hdl]) (all_one HD1.out) ?_)
    | fail)
  rw [HN1.out]
  obtain ⟨w2, hw2⟩ : ∃ x, x = w1.alloc (.cells D.toArray 130 (0, 0)) := ⟨_, rfl⟩
  rw [← hw2]
  have O2 : Hid (Blk w2 N 23 Z) := (show Blk _ _ _ _ by rw [hw2]; exact O1.out.alloc _)
  have H2 : Hid (Blk w2 (N + 1) 130 (Ws (blks (l ++ padb l.length) 0))) := (show Blk _ _ _ _ by rw [hw2, ← HN1.out, blks, HD.out]; exact Blk.new w1 130 D)
  have L2 : Hid (Below N w w2) := (show Below _ _ _ by rw [hw2]; exact L1.out.alloc (by rw [HN1.out]; omega) _)
  clear hw2 O1 L1 HN1
  have HLR : Hid (Below w.heap.size w w2) := (show Below _ _ _ by rw [HN.out]; exact L2.out)
  refine (padded_any _ l hn w2 (HR.out.kept HLR.out)).mono ?_
  rintro e w3 ⟨vp, rfl, hop, hb3⟩
  have hBN : N + 1 < w2.heap.size := H2.out.lt
  have O3 : Hid (Blk w3 N 23 Z) := O2.out.kept hb3
  have H3 : Hid (Blk w3 (N + 1) 130 (Ws (blks (l ++ padb l.length) 0))) := H2.out.kept hb3
  have L3 : Hid (Below N w w3) := L2.out.trans (hb3.mono (by omega))
  have hPL := padb_length l.length
  have hPd := padded_div l
  have hP1 : (l ++ padb l.length).length ≤ 1099511628000 := by rw [List.length_append, hPL]; omega
  have hP0 : 0 < (l ++ padb l.length).length := by rw [List.length_append, hPL]; omega
  have HS : Hid (sha l = dig (blks (l ++ padb l.length) ((l ++ padb l.length).length / 64))) := rfl
  obtain ⟨P, HP⟩ : ∃ P, Hid (l ++ padb l.length = P) := ⟨_, rfl⟩
  rw [HP.out] at hop H3 hPd hP1 hP0 HS
  obtain ⟨n, HNn⟩ : ∃ n, Hid (P.length / 64 = n) := ⟨_, rfl⟩
  rw [HNn.out] at hPd HS
  have HPd : Hid (P.length = 64 * n) := hPd
  obtain ⟨g, cap, rfl, hcap⟩ := hop.some hP0
  have Q3 : Hid (Own w3 w2.heap.size (.slice (some ⟨g, 0, none⟩) P.length cap) P) := hop
  obtain ⟨B, HB⟩ : ∃ B, Hid (w2.heap.size = B) := ⟨_, rfl⟩
  rw [HB.out] at hBN Q3
  clear hop hb3 hPd hPL O2 H2 L2 HLR
  go_wp2_with fail
  go_loopg [5] (n + 1) (fun k z wr => Hid (Below N w wr) ∧ ∃ (i q : Nat), i ≤ n ∧ k + i = n + 1 ∧ z = .int .i64 q ∧ Hid (q = 64 * i) ∧ Hid (Blk wr N 23 Z) ∧ Hid (Blk wr (N + 1) 130 (Ws (blks P i))) ∧ Hid (Own wr B (.slice (some ⟨g, 0, none⟩) P.length cap) P))
  case atStart => exact ⟨L3, 0, 0, by omega, by omega, rfl, rfl, O3, H3, Q3⟩
  case round =>
    clear O3 H3 L3 Q3
    obtain ⟨L3, i, q, hi, hk, rfl, HQ, O3, H3, Q3⟩ := hrel
    have hbl := blks_length P blk_length i
    by_cases hlt : i < n
    · have q1 : (q : Int) < (P.length : Int) := by have := HQ.out; have := HPd.out; omega
      have q2 : q + 64 ≤ P.length := by have := HQ.out; have := HPd.out; omega
      obtain ⟨q', HQ'⟩ : ∃ q', Hid (q' = q + 64) := ⟨_, rfl⟩
      have w1' : IntKind.i64.wrap ((q : Int) + 64) = (q' : Int) := (IntWalk.i64_in _ (by omega)).trans (by have := HQ'.out; omega)
      have hsl := slice_mid g P.length cap q q' (by have := HQ'.out; omega) (by have := HQ'.out; omega) (by omega)
      rw [show q' - q = 64 by have := HQ'.out; omega] at hsl
      obtain ⟨F, HF⟩ : ∃ F, Hid (Ws (blks P i) = F) := ⟨_, rfl⟩
      have hfl : F.length = 8 := by rw [← HF.out, Ws_length, hbl]
      rw [HF.out] at H3
      have hdr : wr.drew.rangeAt (N + 1) 0 F := H3.out.drew.range0
      have Hdr : Hid (({ wr with drawn := wr.drawn + 1 } : World).rangeAt (N + 1) 0 F) := hdr
      clear hdr
      go_wp2_with fail
      refine wp_region_still_tail 6 Tryd.mixed (by kernel_rfl) ?_
      simp only [List.take_succ_cons, List.take_zero, List.drop_succ_cons, List.drop_zero]
      refine wpStill_load_mid rfl 130 _ rfl (N + 1) 0 rfl F _ Hdr.out Tryd.underlying130 rfl (by rw [hfl]; exact Tryd.size130) ?_
      simp only [Act.put, List.setIfInBounds_toArray, List.set_cons_succ, List.set_cons_zero]
      repeat still_step
      refine wpStill_nil ?_
      go_wp2_with fail
      obtain ⟨wq, hwq⟩ : ∃ x, x = wr.drew := ⟨_, rfl⟩
      rw [← hwq]
      have O4 : Hid (Blk wq N 23 Z) := by rw [hwq]; exact O3
      have H4 : Hid (Blk wq (N + 1) 130 F) := by rw [hwq]; exact H3
      have L4 : Hid (Below N w wq) := (show Below _ _ _ by rw [hwq]; exact L3.out.drew)
      have Q4 : Hid (Own wq B (.slice (some ⟨g, 0, none⟩) P.length cap) P) := by rw [hwq]; exact Q3
      clear hwq Hdr O3 H3 L3 Q3
      have R4 : Hid (Rd wq (.slice (some ⟨g, q, none⟩) 64 (cap - q)) ((P.drop q).take 64)) := (show Rd _ _ _ from
        (Q4.out.rd.drop q (by omega) q (.inl (by omega))).take 64 (by omega))
      have hb64 : ((P.drop q).take 64).length = 64 := by simp; omega
      have cB := block_any _ ((P.drop q).take 64) (blks P i) hb64 hbl wq R4.out
      rw [HF.out] at cB
      refine cB.mono ?_
      clear cB
      rintro e w5 ⟨rfl, hb5⟩
      have O5 : Hid (Blk w5 N 23 Z) := O4.out.kept hb5
      have H5 : Hid (Blk w5 (N + 1) 130 F) := H4.out.kept hb5
      have L5 : Hid (Below N w w5) := L4.out.trans (hb5.mono (Nat.le_of_lt O4.out.lt))
      have Q5 : Hid (Own w5 B (.slice (some ⟨g, 0, none⟩) P.length cap) P) := Q4.out.kept hb5
      clear hb5 O4 H4 L4 Q4 R4
      have HG : Hid (blk (blks P i) ((P.drop q).take 64) = blks P (i + 1)) := (show _ = _ by rw [blks, HQ.out])
      rw [HG.out]
      obtain ⟨G, HGG⟩ : ∃ G, Hid (Ws (blks P (i + 1)) = G) := ⟨_, rfl⟩
      have hgl : G.length = 8 := by rw [← HGG.out, Ws_length]; exact blks_length P blk_length _
      have HG1 : Hid (∀ u ∈ G, u.oneCell' = true) := (show ∀ u ∈ G, _ by rw [← HGG.out]; exact Ws_one _)
      rw [HGG.out]
      have t5 : Hid (w5.there (N + 1) 0 8) := H5.out.there 0 8 (by omega)
      go_wp2_with (first
        | (refine wpList_store_mid rfl 130 _ _ rfl (N + 1) 0 G.toArray rfl rfl (by simpa [hgl] using t5.out) (by simpa [hgl] using Tryd.size130) (all_one HG1.out) ?_)
        | fail)
      go_roundg (gk - 1)
      case measure => omega
      case rel =>
        have bt := But.setCells (N + 1) G 0 w5
        refine ⟨L5.out.trans (bt.below (by omega) (Nat.le_of_lt O5.out.lt)), i + 1, q', by omega, by omega, rfl, (show _ = _ by have := HQ.out; have := HQ'.out; omega), O5.out.but bt (by omega), ?_, Q5.out.but bt (.inl hBN)⟩
        show Blk _ _ _ _
        have := H5.out.over G 0 (by omega)
        rw [over_all _ _ (by omega)] at this
        rw [HGG.out]
        exact this
    · obtain rfl : i = n := by omega
      have q1 : ¬ (q : Int) < (P.length : Int) := by have := HQ.out; have := HPd.out; omega
      clear Q3
      obtain ⟨h', HH⟩ : ∃ h', Hid (blks P i = h') := ⟨_, rfl⟩
      rw [HH.out] at H3 hbl HS
      obtain ⟨M, HM⟩ : ∃ M, Hid (wr.heap.size = M) := ⟨_, rfl⟩
      have HNM : Hid (N + 1 < M) := (show _ by rw [← HM.out]; exact H3.out.lt)
      have R3 : Hid ((wr.alloc (.cells Z.toArray 23 (0, 0))).rangeAt (N + 1) 0 (Ws h')) := (H3.out.alloc _).range0
      obtain ⟨w4, hw4⟩ : ∃ x, x = wr.alloc (.cells Z.toArray 23 (0, 0)) := ⟨_, rfl⟩
      have O4 : Hid (Blk w4 N 23 Z) := (show Blk _ _ _ _ by rw [hw4]; exact O3.out.alloc _)
      have D4 : Hid (Blk w4 M 23 (By (dz h' 0))) := (show Blk _ _ _ _ by rw [hw4, ← HM.out, show By (dz h' 0) = Z from HZ.out]; exact Blk.new wr 23 Z)
      have L4 : Hid (Below N w w4) := (show Below _ _ _ by rw [hw4]; exact L3.out.alloc (by have := HNM.out; rw [HM.out]; omega) _)
      go_upto_region 8 with fail
      rw [HM.out]
      change Code.wp _ _ _ _ (wr.alloc (.cells (By (List.replicate 32 0)).toArray 23 (0, 0)))
      rw [HZ.out, ← hw4]
      rw [← hw4] at R3
      clear hw4 O3 H3 L3
      go_wp2_with (first
        | (refine wpList_load_mid rfl 130 _ rfl (N + 1) 0 rfl (Ws h') _ R3.out Tryd.underlying130 rfl (by simpa [Ws_length, hbl] using Tryd.size130) ?_)
        | fail)
      go_loopg [26] 9 (fun g x wr => Hid (Below N w wr) ∧ ∃ i : Nat, i ≤ 8 ∧ g + i = 9 ∧ x = .int .i64 i ∧ Hid (Blk wr N 23 Z) ∧ Hid (Blk wr M 23 (By (dz h' i))))
      case atStart => exact ⟨L4, 0, by omega, by omega, rfl, O4, D4⟩
      case round =>
        clear O4 D4 L4 R3
        obtain ⟨L4, i, hi, hgk, rfl, O4, D4⟩ := hrel
        have hdl' := dz_length h' hbl i hi
        by_cases hlt : i < 8
        · have q1 : (i : Int) < 8 := by omega
          have hix := index_row Tryd.underlying130 Tryd.underlying91 Tryd.size91 (Ws h') i _ hlt (Ws_get (by omega))
          have c0 := D4.out.cell (By_get (l := dz h' i) (j := 4 * i) (by omega))
          have c1 := D4.out.cell (By_get (l := dz h' i) (j := 4 * i + 1) (by omega))
          have c2 := D4.out.cell (By_get (l := dz h' i) (j := 4 * i + 2) (by omega))
          have c3 := D4.out.cell (By_get (l := dz h' i) (j := 4 * i + 3) (by omega))
          have z0 := D4.out.frozen (4 * i)
          have z1 := D4.out.frozen (4 * i + 1)
          have z2 := D4.out.frozen (4 * i + 2)
          have z3 := D4.out.frozen (4 * i + 3)
          have q4 : (4 : Int) * i + 3 < 32 := by omega
          go_wp2
          have HE : Hid _ := dz_set h' hbl i hlt
          have g0 := u8_top (gW h' i)
          have g1 := u8_two (gW h' i)
          have g2 := u8_three (gW h' i)
          have g3 := u8_four (gW h' i)
          go_roundg (gk - 1)
          case measure => omega
          case rel =>
            rw [g0, g1, g2, g3]
            have hNM := HNM.out
            have hwr := D4.out.lt
            refine ⟨L4.out.trans (((((But.setCell M _ _ _).trans (But.setCell M _ _ _)).trans (But.setCell M _ _ _)).trans (But.setCell M _ _ _)).below (by omega) (by omega)), i + 1, by omega, by omega, by go_num, (((O4.out.set_other (by omega) _ _).set_other (by omega) _ _).set_other (by omega) _ _).set_other (by omega) _ _, ?_⟩
            show Blk _ _ _ _
            have := (((D4.out.set (4 * i) (.int .u8 ((UInt8.ofNat ((gW h' i).toNat / 2 ^ 24)).toNat : Int))).set (4 * i + 1) (.int .u8 ((UInt8.ofNat ((gW h' i).toNat / 2 ^ 16)).toNat : Int))).set (4 * i + 2) (.int .u8 ((UInt8.ofNat ((gW h' i).toNat / 2 ^ 8)).toNat : Int))).set (4 * i + 3) (.int .u8 ((UInt8.ofNat (gW h' i).toNat).toNat : Int))
            rw [By_set, By_set, By_set, By_set, HE.out] at this
            exact this
        · obtain rfl : i = 8 := by omega
          have HDZ : Hid (dz h' 8 = sha l) := (show _ = _ by rw [HS.out, dz, List.take_of_length_le (by omega)]; simp)
          have hl32 : (sha l).length = 32 := by rw [← HDZ.out]; exact dz_length h' hbl 8 (by omega)
          obtain ⟨E, HE⟩ : ∃ E, Hid (By (sha l) = E) := ⟨_, rfl⟩
          have hel : E.length = 32 := by rw [← HE.out, By_length, hl32]
          have HE1 : Hid (∀ u ∈ E, u.oneCell' = true) := (show ∀ u ∈ E, _ by rw [← HE.out]; exact By_one _)
          have r0 : Hid (wr.rangeAt M 0 E) := (show World.rangeAt _ _ _ _ by rw [← HE.out, ← HDZ.out]; exact D4.out.range0)
          have t0 : Hid (wr.there N 0 32) := O4.out.there 0 32 (by omega)
          have HB9 : Hid (Blk (wr.setCells N 0 E) N 23 E) := (show Blk _ _ _ _ by
            have := O4.out.over E 0 (by omega)
            rw [over_all _ _ (by omega)] at this
            exact this)
          have HL9 : Hid (Below N w (wr.setCells N 0 E)) := L4.out.trans ((But.setCells N E 0 wr).below (Nat.le_refl _) (Nat.le_of_lt O4.out.lt))
          go_wp2_with (first
            | (refine wpList_load_mid rfl 23 _ rfl M 0 rfl E _ r0.out Tryd.underlying23 rfl (by rw [hel]; exact Tryd.sizeT23) ?_)
            | (refine wpList_store_mid rfl 23 _ _ rfl N 0 E.toArray rfl rfl (by simpa [hel] using t0.out) (by simpa [hel] using Tryd.sizeT23) (all_one HE1.out) ?_)
            | fail)
          refine bodyPost_ret (results_cell_row rfl _ _ N 23 _ (0, 0) _ rfl HB9.out Tryd.underlying23 rfl (by simpa [hel] using Tryd.sizeT23)) rfl ⟨by rw [HE.out], ?_⟩
          rw [HN.out]
          exact HL9.out
end Go.Proofs.YtooffljimdklfaaDoor
