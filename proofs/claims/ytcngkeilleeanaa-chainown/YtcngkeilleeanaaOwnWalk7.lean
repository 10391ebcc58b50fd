/-
  indenturelaw07.ChainOwn: the walk: the call returns true and makes new memory alone.
-/
import Derived.Test.YtcngkeilleeanaaChW
namespace Go.Proofs.Ytcngkeilleeanaa
open Go.RowKit

set_option maxHeartbeats 4000000 in
set_option maxRecDepth 100000 in
theorem chainOwn_any {w : World} {v : Value} {L : List Ver} (h : RdV w v L) (hsz : ∀ y ∈ L, y.2.1.size ≤ 140737488351232) (x : Ver) (hxs : x.2.1.size ≤ 140737488351232) (z : Int) : Calls Try.prog 8 #[v, .agg (VC x).toArray, .int .i64 z] w fun e w' => e = .returned (.bool true) ∧ Below w.heap.size w w' := by
  obtain ⟨i0, hi0, hz0, hz1, hz2⟩ := info_parts Try.info28
  have HSZ : Hid (∀ y ∈ L ++ [x], y.2.1.size ≤ 140737488351232) := (show _ from fun y hy => by
    rcases List.mem_append.1 hy with hy | hy
    · exact hsz y hy
    · rw [List.mem_singleton] at hy; subst hy; exact hxs)
  clear hsz hxs
  have HL := hide h
  obtain ⟨a, cp, rfl⟩ := h.slice
  have hn : L.length ≤ 9223372036854775807 := Nat.le_trans h.cap h.max
  clear h
  have hz := Zver
  obtain ⟨n, HN⟩ : ∃ n, Hid (L.length = n) := ⟨_, rfl⟩
  rw [HN.out] at HL hn ⊢
  have L0 := hide ((Below.refl w.heap.size w).alloc (Nat.le_refl _) (.cells (VC x).toArray 28 (0, 0)))
  have BV0 := hide (Blk.new w 28 (VC x))
  by_cases h300 : 300 < n
  · have q1 : (300 : Int) < (n : Int) := by omega
    go_enter Try.func8, Try.ntmps8
    go_wp2_with fail
    refine (lives_any _).mono ?_
    rintro e w1 ⟨rfl, hb⟩
    have L1 : Hid (Below w.heap.size w w1) := L0.out.trans (hb.mono L0.out.size)
    clear hb
    go_wp2_with fail
    go_ret
    exact ⟨rfl, L1.out⟩
  · have q1 : decide ((300 : Int) < (n : Int)) = false := by simp; omega
    have hl : L.length ≤ 300 := by rw [HN.out]; omega
    have HH := hide hl
    clear hl
    go_enter Try.func8, Try.ntmps8
    go_upto_region 3 with fail
    obtain ⟨EV, HEV⟩ : ∃ E, Hid (w.heap.size = E) := ⟨_, rfl⟩
    obtain ⟨w0, hw0⟩ : ∃ y, y = w.alloc (.cells (VC x).toArray 28 (0, 0)) := ⟨_, rfl⟩
    rw [← hw0] at L0 BV0 ⊢
    rw [HEV.out] at BV0 ⊢
    clear hw0
    have O1 := hide (ownV_room w0 w0.heap.size 28 (n + 4) (Nat.le_refl _) (by simp only [maxLen]; omega))
    have D1 : Hid (Below w0.heap.size w0 (w0.alloc (.cells (VCs (List.replicate (n + 4) zv)).toArray 28 (0, 0)))) := (Below.refl _ _).alloc (Nat.le_refl _) _
    have RC1 := hide ((HL.out.kept L0.out).kept D1.out)
    have HLn : Hid (([] : List Ver).length + L.length ≤ 4398046511104) := (show _ ≤ _ by rw [HN.out]; simp; omega)
    have HLs : Hid (w0.heap.size ≤ (w0.alloc (.cells (VCs (List.replicate (n + 4) zv)).toArray 28 (0, 0))).heap.size) := D1.out.size
    go_upto_region 4 with (first
      | (at_make; refine wpList_make_vers _ rfl _ _ 23 28 rfl i0 Try.underlying23 hi0 hz0 hz1 hz2 .i64 .i64 0 _ 0 (n + 4) rfl rfl rfl (by go_num) (by omega) (by omega) ?_)
      | (at_builtin; refine wpList_append_vers _ rfl _ _ 23 23 rfl w0.heap.size 28 i0 Try.underlying23 hi0 hz0 hz1 hz2 _ [] rfl O1.out _ L rfl (RC1.out.src 23 28 Try.underlying23) HLn.out HLs.out ?_; intro ov w2 o2 b2; have O2 := hide o2; have B2 := hide b2; clear o2 b2)
      | fail)
    have D2 : Hid (Below w0.heap.size w0 w2) := D1.out.trans B2.out
    have L2 : Hid (Below w.heap.size w w2) := L0.out.trans (D2.out.mono L0.out.size)
    have BV2 := hide (BV0.out.kept D2.out)
    have RO2 := hide O2.out.rd
    rw [List.nil_append] at RO2
    have r2 := BV2.out.range0
    clear O1 D1 RC1 HLn HLs B2 O2
    go_wp2_with (first
      | (refine wpList_load_mid rfl 28 _ rfl EV 0 rfl (VC x) _ r2 Try.underlying28 rfl Try.size28 ?_)
      | fail)
    refine (put_any RO2.out (by have := HH.out; omega) x).mono ?_
    rintro e w3 ⟨px, rfl, ho, hb⟩
    have L3 : Hid (Below w.heap.size w w3) := L2.out.trans (hb.mono L2.out.size)
    have Dw3 : Hid (Below w2.heap.size w2 w3) := hb
    have OX3 := hide ho
    clear ho
    clear hb
    clear r2
    obtain ⟨S, HS⟩ : ∃ S, Hid (w2.heap.size = S) := ⟨_, rfl⟩
    have D3 : Hid (Below S w2 w3) := (show Below _ _ _ by rw [← HS.out]; exact Dw3.out)
    rw [HS.out] at OX3
    obtain ⟨ok, HOK⟩ : ∃ q, Hid (putOk L x = q) := ⟨_, rfl⟩
    rw [HOK.out]
    have HwS : Hid (w.heap.size ≤ S) := (show _ ≤ _ by rw [← HS.out]; exact L2.out.size)
    cases ok with
    | false =>
      have LW := L3
      have DW : Hid (Below w2.heap.size w2 w3) := (show Below _ _ _ by rw [HS.out]; exact D3.out)
      obtain ⟨W, hWW⟩ : ∃ W, W = w3 := ⟨_, rfl⟩
      subst hWW
      have ROW := hide (RO2.out.kept DW.out)
      go_wp2_with fail
      refine (trim_any ROW.out (by have := HH.out; omega) z).mono ?_
      rintro e wt ⟨tv, rfl, ho, hb⟩
      have Lt : Hid (Below w.heap.size w wt) := LW.out.trans (hb.mono LW.out.size)
      have Dwt : Hid (Below W.heap.size W wt) := hb
      have OTt := hide ho
      clear ho
      clear hb
      go_wp2_with fail
      refine (cut_any (ROW.out.kept Dwt.out) (by have := HH.out; omega) z).mono ?_
      rintro e wu ⟨cv, rfl, ho, hb⟩
      have Lu : Hid (Below w.heap.size w wu) := Lt.out.trans (hb.mono Lt.out.size)
      have Dwu : Hid (Below wt.heap.size wt wu) := hb
      have OCu := hide ho
      clear ho
      clear hb
      obtain ⟨ta, tc, htv⟩ := OTt.out.rd.slice
      obtain ⟨ca, cc, hcv⟩ := OCu.out.rd.slice
      subst htv hcv
      have HTn := hide (trimP_le L z)
      have HCn := hide (cutP_le L z)
      obtain ⟨T, HTT⟩ : ∃ T, Hid (trimP L z = T) := ⟨_, rfl⟩
      obtain ⟨C, HCC⟩ : ∃ C, Hid (cutP L z = C) := ⟨_, rfl⟩
      rw [HTT.out] at OTt HTn
      rw [HCC.out] at OCu HCn
      rw [HTT.out, HCC.out]
      obtain ⟨tl, HTl⟩ : ∃ k, Hid (T.length = k) := ⟨_, rfl⟩
      obtain ⟨cl, HCl⟩ : ∃ k, Hid (C.length = k) := ⟨_, rfl⟩
      have HT0 : Hid (0 < tl → ∃ g cap, Value.slice ta tl tc = .slice (some ⟨g, 0, none⟩) tl cap ∧ W.heap.size ≤ g ∧ g < wt.heap.size) := (show _ from fun hp => by
        obtain ⟨g, cap, h1, h2, h3, -⟩ := OTt.out.at (by rw [HTl.out]; exact hp)
        rw [HTl.out] at h1
        exact ⟨g, cap, h1, h2, h3⟩)
      have HC0 : Hid (0 < cl → ∃ g cap, Value.slice ca cl cc = .slice (some ⟨g, 0, none⟩) cl cap ∧ wt.heap.size ≤ g ∧ g < wu.heap.size) := (show _ from fun hp => by
        obtain ⟨g, cap, h1, h2, h3, -⟩ := OCu.out.at (by rw [HCl.out]; exact hp)
        rw [HCl.out] at h1
        exact ⟨g, cap, h1, h2, h3⟩)
      rw [HTl.out] at OTt ⊢
      rw [HCl.out] at OCu ⊢
      have htl9 : tl ≤ 9223372036854775807 := by have := HTn.out; have := HTl.out; have := HH.out; omega
      have hcl9 : cl ≤ 9223372036854775807 := by have := HCn.out; have := HCl.out; have := HH.out; omega
      have HSW : Hid (S ≤ W.heap.size) := (show _ ≤ _ by have := DW.out.size; have := HS.out; omega)
      have HWt : Hid (W.heap.size ≤ wt.heap.size) := Dwt.out.size
      have Htu : Hid (wt.heap.size ≤ wu.heap.size) := Dwu.out.size
      have a7 : Below wu.heap.size wu (wu.alloc (.cells #[.slice ta tl tc, .slice ca cl cc] 23 (0, 0))) := (Below.refl _ _).alloc (Nat.le_refl _) _
      have OW0 := hide ((OTt.out.kept Dwu.out).kept a7)
      have KC0 := hide (OCu.out.kept a7)
      have BG0 := hide (Blk.new wu 23 [.slice ta tl tc, .slice ca cl cc])
      have BS0 : Hid (Below S w2 (wu.alloc (.cells #[.slice ta tl tc, .slice ca cl cc] 23 (0, 0)))) := (show Below _ _ _ by rw [← HS.out]; exact ((DW.out.trans (Dwt.out.mono DW.out.size)).trans (Dwu.out.mono (Nat.le_trans DW.out.size Dwt.out.size))).trans (a7.mono (Nat.le_trans DW.out.size (Nat.le_trans Dwt.out.size Dwu.out.size))))
      obtain ⟨G7, HG7⟩ : ∃ G, Hid (wu.heap.size = G) := ⟨_, rfl⟩
      clear a7
      go_wp2_with fail
      rw [HG7.out] at BG0 ⊢
      generalize wu.alloc (.cells #[.slice ta tl tc, .slice ca cl cc] 23 (0, 0)) = w7 at OW0 KC0 BG0 BS0 ⊢
      go_loopg [53] 2 (fun g y wr => ∃ (j : Nat), g + j = 2 ∧ y = .int .i64 (j : Int) ∧ Hid (j = 0 → OwnV wr W.heap.size 28 (.slice ta tl tc) T) ∧ Hid (j ≤ 1 → OwnV wr wt.heap.size 28 (.slice ca cl cc) C) ∧ Hid (Blk wr G7 23 [.slice ta tl tc, .slice ca cl cc]) ∧ Hid (Below S w2 wr))
      case atStart => exact ⟨0, rfl, rfl, (show (0 : Nat) = 0 → _ from fun _ => OW0.out), (show (0 : Nat) ≤ 1 → _ from fun _ => KC0.out), BG0, BS0⟩
      case round =>
        clear OW0 KC0 BG0 BS0
        obtain ⟨j, hgj, rfl, OW0, KC0, BG0, BS⟩ := hrel
        obtain ⟨gk0, Hgk⟩ : ∃ g, Hid (g = gk) := ⟨_, rfl⟩
        rw [← Hgk.out] at hgj
        have BG := BG0
        rcases (show j = 0 ∨ j = 1 ∨ j = 2 by omega) with hj | hj | hj
        · subst hj
          have OW := hide (OW0.out rfl)
          have e0 : ((0 : Nat) : Int) = 0 := rfl
          rw [e0]
          have cj := BG.out.cell (j := 0) rfl
          clear BG0
          go_wp2_with fail
          go_loopg [59] tl (fun g y wr => ∃ (i : Nat) (X : List Ver), g + i = tl ∧ y = .int .i64 (i : Int) ∧ Hid (OwnV wr W.heap.size 28 (.slice ta tl tc) X) ∧ Hid (X.length = tl) ∧ Hid (OwnV wr wt.heap.size 28 (.slice ca cl cc) C) ∧ Hid (Blk wr G7 23 [.slice ta tl tc, .slice ca cl cc]) ∧ Hid (Below S w2 wr))
          case atStart => exact ⟨0, T, by omega, rfl, OW, HTl, KC0.out (by omega), BG, BS⟩
          case round =>
            clear OW BG BS cj
            obtain ⟨i, X, hgi, rfl, OW, HXl, KC, BG, BS⟩ := hrel
            by_cases hlt : i < tl
            · have q3 : (i : Int) < (tl : Int) := by omega
              obtain ⟨gx, cx, hg1, hg2, hg3⟩ := HT0.out (by omega)
              simp only [Value.slice.injEq] at hg1
              obtain ⟨rfl, -, rfl⟩ := hg1
              have hiX : i < X.length := by rw [HXl.out]; exact hlt
              obtain ⟨hrg, hfz⟩ := OW.out.cellV hiX
              generalize hXi : X[i] = p at hrg
              obtain ⟨pa, ps, pd⟩ := p
              have c0 := hrg 0 _ rfl
              have f0 := hfz (i * 3)
              simp only [Nat.add_zero] at c0
              have hst := OW.out.store (i := i) (k := 0) (u := .int .i64 (-1)) (y := (-1, ps, pd)) hiX (by decide) (by rw [hXi]; rfl)
              simp only [Nat.add_zero] at hst
              have OW2 := hide hst
              have HX2 : Hid ((X.set i (-1, ps, pd)).length = tl) := (show _ = _ by rw [List.length_set]; exact HXl.out)
              have T2 := hide (But.setCell gx wr (i * 3) (.int .i64 (-1)))
              have BS2 : Hid (Below S w2 (wr.setCell ⟨gx, i * 3, none⟩ (.int .i64 (-1)))) := BS.out.trans (T2.out.below (by have := HSW.out; have := HWt.out; omega) (by have := BS.out.size; have := HS.out; omega))
              have BG2 := hide (BG.out.set_other (c := gx) (by have := HG7.out; have := Htu.out; omega) (i * 3) (.int .i64 (-1)))
              have KC2 : Hid (OwnV (wr.setCell ⟨gx, i * 3, none⟩ (.int .i64 (-1))) wt.heap.size 28 (.slice ca cl cc) C) := KC.out.but T2.out hg3
              clear hst hrg hfz hXi
              go_wp2_with fail
              go_roundg (gk - 1)
              case measure => omega
              case rel => exact ⟨i + 1, _, by omega, by go_num, OW2, HX2, KC2, BG2, BS2⟩
            · obtain rfl : i = tl := by omega
              have q3 : ¬ (i : Int) < (i : Int) := by omega
              go_wp2_with fail
              go_roundg (gk0 - 1)
              case measure => have := Hgk.out; omega
              case rel => exact ⟨1, by omega, rfl, (show (1 : Nat) = 0 → _ from fun h => by omega), (show (1 : Nat) ≤ 1 → _ from fun _ => KC.out), BG, BS⟩
        · subst hj
          have OW := hide (KC0.out (Nat.le_refl _))
          have e0 : ((1 : Nat) : Int) = 1 := rfl
          rw [e0]
          have cj := BG.out.cell (j := 1) rfl
          clear BG0
          go_wp2_with fail
          go_loopg [59] cl (fun g y wr => ∃ (i : Nat) (X : List Ver), g + i = cl ∧ y = .int .i64 (i : Int) ∧ Hid (OwnV wr wt.heap.size 28 (.slice ca cl cc) X) ∧ Hid (X.length = cl) ∧ Hid (Blk wr G7 23 [.slice ta tl tc, .slice ca cl cc]) ∧ Hid (Below S w2 wr))
          case atStart => exact ⟨0, C, by omega, rfl, OW, HCl, BG, BS⟩
          case round =>
            clear OW BG BS cj
            obtain ⟨i, X, hgi, rfl, OW, HXl, BG, BS⟩ := hrel
            by_cases hlt : i < cl
            · have q3 : (i : Int) < (cl : Int) := by omega
              obtain ⟨gx, cx, hg1, hg2, hg3⟩ := HC0.out (by omega)
              simp only [Value.slice.injEq] at hg1
              obtain ⟨rfl, -, rfl⟩ := hg1
              have hiX : i < X.length := by rw [HXl.out]; exact hlt
              obtain ⟨hrg, hfz⟩ := OW.out.cellV hiX
              generalize hXi : X[i] = p at hrg
              obtain ⟨pa, ps, pd⟩ := p
              have c0 := hrg 0 _ rfl
              have f0 := hfz (i * 3)
              simp only [Nat.add_zero] at c0
              have hst := OW.out.store (i := i) (k := 0) (u := .int .i64 (-1)) (y := (-1, ps, pd)) hiX (by decide) (by rw [hXi]; rfl)
              simp only [Nat.add_zero] at hst
              have OW2 := hide hst
              have HX2 : Hid ((X.set i (-1, ps, pd)).length = cl) := (show _ = _ by rw [List.length_set]; exact HXl.out)
              have T2 := hide (But.setCell gx wr (i * 3) (.int .i64 (-1)))
              have BS2 : Hid (Below S w2 (wr.setCell ⟨gx, i * 3, none⟩ (.int .i64 (-1)))) := BS.out.trans (T2.out.below (by have := HSW.out; have := HWt.out; omega) (by have := BS.out.size; have := HS.out; omega))
              have BG2 := hide (BG.out.set_other (c := gx) (by have := HG7.out; have := Htu.out; omega) (i * 3) (.int .i64 (-1)))
              clear hst hrg hfz hXi
              go_wp2_with fail
              go_roundg (gk - 1)
              case measure => omega
              case rel => exact ⟨i + 1, _, by omega, by go_num, OW2, HX2, BG2, BS2⟩
            · obtain rfl : i = cl := by omega
              have q3 : ¬ (i : Int) < (i : Int) := by omega
              go_wp2_with fail
              go_roundg (gk0 - 1)
              case measure => have := Hgk.out; omega
              case rel => exact ⟨2, by omega, rfl, (show (2 : Nat) = 0 → _ from fun h => by omega), (show (2 : Nat) ≤ 1 → _ from fun h => by omega), BG, BS⟩
        · subst hj
          have e0 : ((2 : Nat) : Int) = 2 := rfl
          rw [e0]
          have DR : Hid (Below w2.heap.size w2 wr) := (show Below _ _ _ by rw [HS.out]; exact BS.out)
          have LR : Hid (Below w.heap.size w wr) := L2.out.trans (DR.out.mono L2.out.size)
          go_wp2_with fail
          refine (plain_any (RO2.out.kept DR.out) (by have := HH.out; omega)).mono ?_
          rintro e wa ⟨pa, rfl, ho, hb⟩
          have La : Hid (Below w.heap.size w wa) := LR.out.trans (hb.mono LR.out.size)
          have Dwa : Hid (Below wr.heap.size wr wa) := hb
          have RAa := hide ho.rd
          clear ho
          clear hb
          go_wp2_with fail
          refine (plain_any (HL.out.kept La.out) (by have := HH.out; omega)).mono ?_
          rintro e wb ⟨pb, rfl, ho, hb⟩
          have Lb : Hid (Below w.heap.size w wb) := La.out.trans (hb.mono La.out.size)
          have Dwb : Hid (Below wa.heap.size wa wb) := hb
          have RBb := hide ho.rd
          clear ho
          clear hb
          go_wp2_with fail
          refine (same_any (RAa.out.kept Dwb.out) RBb.out).mono ?_
          rintro e wc ⟨rfl, hb⟩
          have Lc : Hid (Below w.heap.size w wc) := Lb.out.trans (hb.mono Lb.out.size)
          have Dwc : Hid (Below wb.heap.size wb wc) := hb
          clear hb
          have e5 : decide (L = L) = true := by simp
          rw [e5]
          clear e5
          go_wp2_with fail
          refine (lives_any wc).mono ?_
          rintro e wz ⟨rfl, hb⟩
          have Lz : Hid (Below w.heap.size w wz) := Lc.out.trans (hb.mono Lc.out.size)
          have Dwz : Hid (Below wc.heap.size wc wz) := hb
          clear hb
          go_wp2_with fail
          go_ret
          exact ⟨rfl, Lz.out⟩
    | true =>
      rw [putP_ok HOK.out] at OX3
      obtain ⟨N1, HN1⟩ : ∃ k, Hid (n + 1 = k) := ⟨_, rfl⟩
      obtain ⟨M, HM⟩ : ∃ M, Hid (L ++ [x] = M) := ⟨_, rfl⟩
      rw [HM.out] at OX3 HSZ
      have HMl : Hid (M.length = N1) := (show _ = _ by rw [← HM.out, List.length_append, HN.out, ← HN1.out]; rfl)
      obtain ⟨gx, cx, hpx, hgS, -⟩ := OX3.out.at (by have := HMl.out; have := HN1.out; omega)
      rw [HMl.out] at hpx
      subst hpx
      have hN9 : N1 ≤ 9223372036854775807 := by have := HN1.out; omega
      have HM0 : Hid (∀ j (hj : j < M.length), 0 ≤ j → (M[j]).2.1.size ≤ 140737488351232) := (show _ from fun j hj _ => HSZ.out _ (List.getElem_mem hj))
      go_wp2_with fail
      go_loopg [33] N1 (fun g y wr => ∃ (i : Nat) (X : List Ver), g + i = N1 ∧ y = .int .i64 (i : Int) ∧ Hid (OwnV wr S 28 (.slice (some ⟨gx, 0, none⟩) N1 cx) X) ∧ Hid (X.length = N1) ∧ Hid (∀ j (hj : j < X.length), i ≤ j → (X[j]).2.1.size ≤ 140737488351232) ∧ Hid (Below S w2 wr))
      case atStart => exact ⟨0, M, by omega, rfl, OX3, HMl, HM0, D3⟩
      case round =>
        clear OX3 HM0
        obtain ⟨i, X, hgi, rfl, OW, HXl, HXs, BS⟩ := hrel
        by_cases hlt : i < N1
        · have q3 : (i : Int) < (N1 : Int) := by omega
          have hiX : i < X.length := by rw [HXl.out]; exact hlt
          obtain ⟨hrg, hfz⟩ := OW.out.cellV hiX
          have hps := HXs.out i hiX (Nat.le_refl _)
          generalize hXi : X[i] = p at hrg hps
          obtain ⟨pa, ps, pd⟩ := p
          have c1 := hrg 1 _ rfl
          have f1 := hfz (i * 3 + 1)
          simp only at c1 hps
          have hadd : ∀ W, (Op.stringOp .add ps ⟨#[33]⟩).run Try.prog W = .ok (.string (ps ++ ⟨#[33]⟩)) W := fun W => run_string_add_sum W ps ⟨#[33]⟩ (by have : (⟨#[33]⟩ : ByteArray).size = 1 := rfl; omega)
          obtain ⟨qs, HQS⟩ : ∃ q, Hid (ps ++ ⟨#[33]⟩ = q) := ⟨_, rfl⟩
          rw [HQS.out] at hadd
          have hst := OW.out.store (i := i) (k := 1) (u := .string qs) (y := (pa, qs, pd)) hiX (by decide) (by rw [hXi]; rfl)
          have OW2 := hide hst
          have HX2 : Hid ((X.set i (pa, qs, pd)).length = N1) := (show _ = _ by rw [List.length_set]; exact HXl.out)
          have HX3 : Hid (∀ j (hj : j < (X.set i (pa, qs, pd)).length), i + 1 ≤ j → ((X.set i (pa, qs, pd))[j]).2.1.size ≤ 140737488351232) := (show _ from fun j hj hij => by
            rw [List.getElem_set_ne (by omega)]
            exact HXs.out j (by rw [List.length_set] at hj; exact hj) (by omega))
          have T2 := hide (But.setCell gx wr (i * 3 + 1) (.string qs))
          have BS2 : Hid (Below S w2 (wr.setCell ⟨gx, i * 3 + 1, none⟩ (.string qs))) := BS.out.trans (T2.out.below hgS (by have := BS.out.size; have := HS.out; omega))
          clear hst hrg hfz hXi hps
          go_wp2_with fail
          go_roundg (gk - 1)
          case measure => omega
          case rel => exact ⟨i + 1, _, by omega, by go_num, OW2, HX2, HX3, BS2⟩
        · obtain rfl : i = N1 := by omega
          have q3 : ¬ (i : Int) < (i : Int) := by omega
          have LRR : Hid (Below w.heap.size w wr) := L2.out.trans (BS.out.mono HwS.out)
          have LW := LRR
          have DW : Hid (Below w2.heap.size w2 wr) := (show Below _ _ _ by rw [HS.out]; exact BS.out)
          obtain ⟨W, hWW⟩ : ∃ W, W = wr := ⟨_, rfl⟩
          subst hWW
          have ROW := hide (RO2.out.kept DW.out)
          go_wp2_with fail
          refine (trim_any ROW.out (by have := HH.out; omega) z).mono ?_
          rintro e wt ⟨tv, rfl, ho, hb⟩
          have Lt : Hid (Below w.heap.size w wt) := LW.out.trans (hb.mono LW.out.size)
          have Dwt : Hid (Below W.heap.size W wt) := hb
          have OTt := hide ho
          clear ho
          clear hb
          go_wp2_with fail
          refine (cut_any (ROW.out.kept Dwt.out) (by have := HH.out; omega) z).mono ?_
          rintro e wu ⟨cv, rfl, ho, hb⟩
          have Lu : Hid (Below w.heap.size w wu) := Lt.out.trans (hb.mono Lt.out.size)
          have Dwu : Hid (Below wt.heap.size wt wu) := hb
          have OCu := hide ho
          clear ho
          clear hb
          obtain ⟨ta, tc, htv⟩ := OTt.out.rd.slice
          obtain ⟨ca, cc, hcv⟩ := OCu.out.rd.slice
          subst htv hcv
          have HTn := hide (trimP_le L z)
          have HCn := hide (cutP_le L z)
          obtain ⟨T, HTT⟩ : ∃ T, Hid (trimP L z = T) := ⟨_, rfl⟩
          obtain ⟨C, HCC⟩ : ∃ C, Hid (cutP L z = C) := ⟨_, rfl⟩
          rw [HTT.out] at OTt HTn
          rw [HCC.out] at OCu HCn
          rw [HTT.out, HCC.out]
          obtain ⟨tl, HTl⟩ : ∃ k, Hid (T.length = k) := ⟨_, rfl⟩
          obtain ⟨cl, HCl⟩ : ∃ k, Hid (C.length = k) := ⟨_, rfl⟩
          have HT0 : Hid (0 < tl → ∃ g cap, Value.slice ta tl tc = .slice (some ⟨g, 0, none⟩) tl cap ∧ W.heap.size ≤ g ∧ g < wt.heap.size) := (show _ from fun hp => by
            obtain ⟨g, cap, h1, h2, h3, -⟩ := OTt.out.at (by rw [HTl.out]; exact hp)
            rw [HTl.out] at h1
            exact ⟨g, cap, h1, h2, h3⟩)
          have HC0 : Hid (0 < cl → ∃ g cap, Value.slice ca cl cc = .slice (some ⟨g, 0, none⟩) cl cap ∧ wt.heap.size ≤ g ∧ g < wu.heap.size) := (show _ from fun hp => by
            obtain ⟨g, cap, h1, h2, h3, -⟩ := OCu.out.at (by rw [HCl.out]; exact hp)
            rw [HCl.out] at h1
            exact ⟨g, cap, h1, h2, h3⟩)
          rw [HTl.out] at OTt ⊢
          rw [HCl.out] at OCu ⊢
          have htl9 : tl ≤ 9223372036854775807 := by have := HTn.out; have := HTl.out; have := HH.out; omega
          have hcl9 : cl ≤ 9223372036854775807 := by have := HCn.out; have := HCl.out; have := HH.out; omega
          have HSW : Hid (S ≤ W.heap.size) := (show _ ≤ _ by have := DW.out.size; have := HS.out; omega)
          have HWt : Hid (W.heap.size ≤ wt.heap.size) := Dwt.out.size
          have Htu : Hid (wt.heap.size ≤ wu.heap.size) := Dwu.out.size
          have a7 : Below wu.heap.size wu (wu.alloc (.cells #[.slice ta tl tc, .slice ca cl cc] 23 (0, 0))) := (Below.refl _ _).alloc (Nat.le_refl _) _
          have OW0 := hide ((OTt.out.kept Dwu.out).kept a7)
          have KC0 := hide (OCu.out.kept a7)
          have BG0 := hide (Blk.new wu 23 [.slice ta tl tc, .slice ca cl cc])
          have BS0 : Hid (Below S w2 (wu.alloc (.cells #[.slice ta tl tc, .slice ca cl cc] 23 (0, 0)))) := (show Below _ _ _ by rw [← HS.out]; exact ((DW.out.trans (Dwt.out.mono DW.out.size)).trans (Dwu.out.mono (Nat.le_trans DW.out.size Dwt.out.size))).trans (a7.mono (Nat.le_trans DW.out.size (Nat.le_trans Dwt.out.size Dwu.out.size))))
          obtain ⟨G7, HG7⟩ : ∃ G, Hid (wu.heap.size = G) := ⟨_, rfl⟩
          clear a7
          go_wp2_with fail
          rw [HG7.out] at BG0 ⊢
          generalize wu.alloc (.cells #[.slice ta tl tc, .slice ca cl cc] 23 (0, 0)) = w7 at OW0 KC0 BG0 BS0 ⊢
          go_loopg [53] 2 (fun g y wr => ∃ (j : Nat), g + j = 2 ∧ y = .int .i64 (j : Int) ∧ Hid (j = 0 → OwnV wr W.heap.size 28 (.slice ta tl tc) T) ∧ Hid (j ≤ 1 → OwnV wr wt.heap.size 28 (.slice ca cl cc) C) ∧ Hid (Blk wr G7 23 [.slice ta tl tc, .slice ca cl cc]) ∧ Hid (Below S w2 wr))
          case atStart => exact ⟨0, rfl, rfl, (show (0 : Nat) = 0 → _ from fun _ => OW0.out), (show (0 : Nat) ≤ 1 → _ from fun _ => KC0.out), BG0, BS0⟩
          case round =>
            clear OW0 KC0 BG0 BS0
            obtain ⟨j, hgj, rfl, OW0, KC0, BG0, BS⟩ := hrel
            obtain ⟨gk0, Hgk⟩ : ∃ g, Hid (g = gk) := ⟨_, rfl⟩
            rw [← Hgk.out] at hgj
            have BG := BG0
            rcases (show j = 0 ∨ j = 1 ∨ j = 2 by omega) with hj | hj | hj
            · subst hj
              have OW := hide (OW0.out rfl)
              have e0 : ((0 : Nat) : Int) = 0 := rfl
              rw [e0]
              have cj := BG.out.cell (j := 0) rfl
              clear BG0
              go_wp2_with fail
              go_loopg [59] tl (fun g y wr => ∃ (i : Nat) (X : List Ver), g + i = tl ∧ y = .int .i64 (i : Int) ∧ Hid (OwnV wr W.heap.size 28 (.slice ta tl tc) X) ∧ Hid (X.length = tl) ∧ Hid (OwnV wr wt.heap.size 28 (.slice ca cl cc) C) ∧ Hid (Blk wr G7 23 [.slice ta tl tc, .slice ca cl cc]) ∧ Hid (Below S w2 wr))
              case atStart => exact ⟨0, T, by omega, rfl, OW, HTl, KC0.out (by omega), BG, BS⟩
              case round =>
                clear OW BG BS cj
                obtain ⟨i, X, hgi, rfl, OW, HXl, KC, BG, BS⟩ := hrel
                by_cases hlt : i < tl
                · have q3 : (i : Int) < (tl : Int) := by omega
                  obtain ⟨gx, cx, hg1, hg2, hg3⟩ := HT0.out (by omega)
                  simp only [Value.slice.injEq] at hg1
                  obtain ⟨rfl, -, rfl⟩ := hg1
                  have hiX : i < X.length := by rw [HXl.out]; exact hlt
                  obtain ⟨hrg, hfz⟩ := OW.out.cellV hiX
                  generalize hXi : X[i] = p at hrg
                  obtain ⟨pa, ps, pd⟩ := p
                  have c0 := hrg 0 _ rfl
                  have f0 := hfz (i * 3)
                  simp only [Nat.add_zero] at c0
                  have hst := OW.out.store (i := i) (k := 0) (u := .int .i64 (-1)) (y := (-1, ps, pd)) hiX (by decide) (by rw [hXi]; rfl)
                  simp only [Nat.add_zero] at hst
                  have OW2 := hide hst
                  have HX2 : Hid ((X.set i (-1, ps, pd)).length = tl) := (show _ = _ by rw [List.length_set]; exact HXl.out)
                  have T2 := hide (But.setCell gx wr (i * 3) (.int .i64 (-1)))
                  have BS2 : Hid (Below S w2 (wr.setCell ⟨gx, i * 3, none⟩ (.int .i64 (-1)))) := BS.out.trans (T2.out.below (by have := HSW.out; have := HWt.out; omega) (by have := BS.out.size; have := HS.out; omega))
                  have BG2 := hide (BG.out.set_other (c := gx) (by have := HG7.out; have := Htu.out; omega) (i * 3) (.int .i64 (-1)))
                  have KC2 : Hid (OwnV (wr.setCell ⟨gx, i * 3, none⟩ (.int .i64 (-1))) wt.heap.size 28 (.slice ca cl cc) C) := KC.out.but T2.out hg3
                  clear hst hrg hfz hXi
                  go_wp2_with fail
                  go_roundg (gk - 1)
                  case measure => omega
                  case rel => exact ⟨i + 1, _, by omega, by go_num, OW2, HX2, KC2, BG2, BS2⟩
                · obtain rfl : i = tl := by omega
                  have q3 : ¬ (i : Int) < (i : Int) := by omega
                  go_wp2_with fail
                  go_roundg (gk0 - 1)
                  case measure => have := Hgk.out; omega
                  case rel => exact ⟨1, by omega, rfl, (show (1 : Nat) = 0 → _ from fun h => by omega), (show (1 : Nat) ≤ 1 → _ from fun _ => KC.out), BG, BS⟩
            · subst hj
              have OW := hide (KC0.out (Nat.le_refl _))
              have e0 : ((1 : Nat) : Int) = 1 := rfl
              rw [e0]
              have cj := BG.out.cell (j := 1) rfl
              clear BG0
              go_wp2_with fail
              go_loopg [59] cl (fun g y wr => ∃ (i : Nat) (X : List Ver), g + i = cl ∧ y = .int .i64 (i : Int) ∧ Hid (OwnV wr wt.heap.size 28 (.slice ca cl cc) X) ∧ Hid (X.length = cl) ∧ Hid (Blk wr G7 23 [.slice ta tl tc, .slice ca cl cc]) ∧ Hid (Below S w2 wr))
              case atStart => exact ⟨0, C, by omega, rfl, OW, HCl, BG, BS⟩
              case round =>
                clear OW BG BS cj
                obtain ⟨i, X, hgi, rfl, OW, HXl, BG, BS⟩ := hrel
                by_cases hlt : i < cl
                · have q3 : (i : Int) < (cl : Int) := by omega
                  obtain ⟨gx, cx, hg1, hg2, hg3⟩ := HC0.out (by omega)
                  simp only [Value.slice.injEq] at hg1
                  obtain ⟨rfl, -, rfl⟩ := hg1
                  have hiX : i < X.length := by rw [HXl.out]; exact hlt
                  obtain ⟨hrg, hfz⟩ := OW.out.cellV hiX
                  generalize hXi : X[i] = p at hrg
                  obtain ⟨pa, ps, pd⟩ := p
                  have c0 := hrg 0 _ rfl
                  have f0 := hfz (i * 3)
                  simp only [Nat.add_zero] at c0
                  have hst := OW.out.store (i := i) (k := 0) (u := .int .i64 (-1)) (y := (-1, ps, pd)) hiX (by decide) (by rw [hXi]; rfl)
                  simp only [Nat.add_zero] at hst
                  have OW2 := hide hst
                  have HX2 : Hid ((X.set i (-1, ps, pd)).length = cl) := (show _ = _ by rw [List.length_set]; exact HXl.out)
                  have T2 := hide (But.setCell gx wr (i * 3) (.int .i64 (-1)))
                  have BS2 : Hid (Below S w2 (wr.setCell ⟨gx, i * 3, none⟩ (.int .i64 (-1)))) := BS.out.trans (T2.out.below (by have := HSW.out; have := HWt.out; omega) (by have := BS.out.size; have := HS.out; omega))
                  have BG2 := hide (BG.out.set_other (c := gx) (by have := HG7.out; have := Htu.out; omega) (i * 3) (.int .i64 (-1)))
                  clear hst hrg hfz hXi
                  go_wp2_with fail
                  go_roundg (gk - 1)
                  case measure => omega
                  case rel => exact ⟨i + 1, _, by omega, by go_num, OW2, HX2, BG2, BS2⟩
                · obtain rfl : i = cl := by omega
                  have q3 : ¬ (i : Int) < (i : Int) := by omega
                  go_wp2_with fail
                  go_roundg (gk0 - 1)
                  case measure => have := Hgk.out; omega
                  case rel => exact ⟨2, by omega, rfl, (show (2 : Nat) = 0 → _ from fun h => by omega), (show (2 : Nat) ≤ 1 → _ from fun h => by omega), BG, BS⟩
            · subst hj
              have e0 : ((2 : Nat) : Int) = 2 := rfl
              rw [e0]
              have DR : Hid (Below w2.heap.size w2 wr) := (show Below _ _ _ by rw [HS.out]; exact BS.out)
              have LR : Hid (Below w.heap.size w wr) := L2.out.trans (DR.out.mono L2.out.size)
              go_wp2_with fail
              refine (plain_any (RO2.out.kept DR.out) (by have := HH.out; omega)).mono ?_
              rintro e wa ⟨pa, rfl, ho, hb⟩
              have La : Hid (Below w.heap.size w wa) := LR.out.trans (hb.mono LR.out.size)
              have Dwa : Hid (Below wr.heap.size wr wa) := hb
              have RAa := hide ho.rd
              clear ho
              clear hb
              go_wp2_with fail
              refine (plain_any (HL.out.kept La.out) (by have := HH.out; omega)).mono ?_
              rintro e wb ⟨pb, rfl, ho, hb⟩
              have Lb : Hid (Below w.heap.size w wb) := La.out.trans (hb.mono La.out.size)
              have Dwb : Hid (Below wa.heap.size wa wb) := hb
              have RBb := hide ho.rd
              clear ho
              clear hb
              go_wp2_with fail
              refine (same_any (RAa.out.kept Dwb.out) RBb.out).mono ?_
              rintro e wc ⟨rfl, hb⟩
              have Lc : Hid (Below w.heap.size w wc) := Lb.out.trans (hb.mono Lb.out.size)
              have Dwc : Hid (Below wb.heap.size wb wc) := hb
              clear hb
              have e5 : decide (L = L) = true := by simp
              rw [e5]
              clear e5
              go_wp2_with fail
              refine (lives_any wc).mono ?_
              rintro e wz ⟨rfl, hb⟩
              have Lz : Hid (Below w.heap.size w wz) := Lc.out.trans (hb.mono Lc.out.size)
              have Dwz : Hid (Below wc.heap.size wc wz) := hb
              clear hb
              go_wp2_with fail
              go_ret
              exact ⟨rfl, Lz.out⟩
#print axioms chainOwn_any
end Go.Proofs.Ytcngkeilleeanaa
