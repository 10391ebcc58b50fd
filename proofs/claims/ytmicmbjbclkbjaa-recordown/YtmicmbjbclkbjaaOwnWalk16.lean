/-
  The law RecordOwn: what the call does.
-/
import Derived.Test.YtmicmbjbclkbjaaRcQ
namespace Go.Proofs.Ytmicmbjbclkbjaa
open Go.RowKit
theorem plR_eq9 {x y : Rz} (h : plR x = plR y) : x.sc = y.sc ∧ x.k = y.k ∧ x.t = y.t ∧ x.ps = y.ps := by simpa [plR] using h
set_option maxHeartbeats 2000000 in
set_option maxRecDepth 100000 in
theorem recordOwn_any {w : World} {r : Rc} (hr : ROk w r) (hb : RB 140737488351232 r) : Calls Try.prog 5 #[.agg (RC r).toArray] w fun e w' => e = .returned (.bool true) ∧ Below w.heap.size w w' := by
  obtain ⟨N, HN⟩ : ∃ N, Hid (w.heap.size = N) := ⟨_, rfl⟩
  obtain ⟨w1, hw1⟩ : ∃ y, y = w.alloc (.cells (RC r).toArray 27 (0, 0)) := ⟨_, rfl⟩
  obtain ⟨b1, l1⟩ := newB HN hw1
  have HW := hide hw1
  have RO := hide (hr.kept l1.out)
  have HBR := hide hb
  have CL := hide (mlight_any RO.out hb)
  have hzr := zeroR
  have rk := b1.out.range0
  clear hr hw1 hb
  go_enter Try.func5, Try.ntmps5
  go_upto_region 1 with fail
  change Code.wp _ _ _ _ (w.alloc (.cells (RC r).toArray 27 (0, 0)))
  rw [← HW.out, HN.out]
  go_wp2_with (first
    | (refine wpList_load_mid rfl 27 _ rfl N 0 rfl (RC r) _ rk Try.underlying27 rfl Try.size27 ?_)
    | fail)
  refine CL.out.mono ?_
  rintro e w2 ⟨b, rfl, hlt, hb2⟩
  have L2 : Hid (Below w1.heap.size w1 w2) := (show Below _ _ _ from hb2)
  have HLT := hide hlt
  clear hb2 CL rk hlt
  cases b with
  | false =>
    have CV := hide (lives_any w2)
    go_wp2_with fail
    refine CV.out.mono ?_
    rintro e w9 ⟨rfl, hb9⟩
    have L9 : Hid (Below w.heap.size w w9) := (show Below _ _ _ from l1.out.trans ((L2.out.trans (hb9.mono L2.out.size)).mono l1.out.size))
    clear hb9 CV
    go_wp2_with fail
    go_ret
    exact ⟨rfl, L9.out⟩
  | true =>
    have LT := hide (HLT.out rfl)
    have CC := hide (jcopy_any (RO.out.kept L2.out) LT.out)
    have rk := (b1.out.kept L2.out).range0
    go_wp2_with (first
      | (refine wpList_load_mid rfl 27 _ rfl N 0 rfl (RC r) _ rk Try.underlying27 rfl Try.size27 ?_)
      | fail)
    refine CC.out.mono ?_
    rintro e w3 ⟨c, rfl, o3, s3, hb3⟩
    have L3 : Hid (Below w1.heap.size w1 w3) := (show Below _ _ _ from L2.out.trans (hb3.mono L2.out.size))
    have O3 := hide o3
    have S3 := hide s3
    clear o3 s3 hb3 CC rk
    obtain ⟨C, HC⟩ : ∃ z, Hid (w3.heap.size = z) := ⟨_, rfl⟩
    obtain ⟨w4, hw4⟩ : ∃ y, y = w3.alloc (.cells (RC c).toArray 27 (0, 0)) := ⟨_, rfl⟩
    obtain ⟨b4, l4⟩ := newB HC hw4
    have HW4 := hide hw4
    have L4 : Hid (Below w1.heap.size w1 w4) := (show Below _ _ _ from L3.out.trans (l4.out.mono L3.out.size))
    have CO4 : Hid (ROk w4 c) := (show ROk _ _ from O3.out.rd.kept l4.out)
    have PC : Hid (c.ses = r.ses ∧ c.snap = r.snap ∧ c.st = r.st ∧ c.rs.map plR = r.rs.map plR ∧ c.ws = r.ws) := (show _ ∧ _ from by
      have h := S3.out
      unfold sameB at h
      simpa only [Bool.and_eq_true, decide_eq_true_eq, eqX_iff] using h)
    have LC : Hid (LtR c) := (show LtR _ from by
      obtain ⟨_, _, _, h4, h5⟩ := PC.out
      have hln := congrArg List.length h4
      rw [List.length_map, List.length_map] at hln
      refine ⟨by rw [h5]; exact LT.out.wl, by rw [hln]; exact LT.out.rl, fun x hx => ?_⟩
      have hm : plR x ∈ r.rs.map plR := by rw [← h4]; exact List.mem_map.2 ⟨x, hx, rfl⟩
      obtain ⟨y, hy, e⟩ := List.mem_map.1 hm
      rw [← (plR_eq9 e).2.2.2]
      exact LT.out.ps y hy)
    have CD := hide (jcopy_any CO4.out LC.out)
    have rk4 := b4.out.range0
    clear hw4
    go_upto_region 4 with (first
      | (refine wpList_store_new rfl 27 _ _ rfl w3 _ (RC c).toArray _ rfl rfl rfl Try.size27 rfl (all_one (RC_one c)) ?_; rw [← HW4.out, HC.out])
      | fail)
    try simp only [Act.put]
    go_wp2_with (first
      | (refine wpList_load_mid rfl 27 _ rfl C 0 rfl (RC c) _ rk4 Try.underlying27 rfl Try.size27 ?_)
      | fail)
    refine CD.out.mono ?_
    rintro e w5 ⟨d, rfl, o5, s5, hb5⟩
    obtain ⟨B, HB⟩ : ∃ z, Hid (w4.heap.size = z) := ⟨_, rfl⟩
    rw [HB.out] at o5 hb5
    have L5 : Hid (Below B w4 w5) := (show Below _ _ _ from hb5)
    have O5 := hide o5
    have S5 := hide s5
    clear o5 s5 hb5 CD rk4
    obtain ⟨D, HD⟩ : ∃ z, Hid (w5.heap.size = z) := ⟨_, rfl⟩
    obtain ⟨w6, hw6⟩ : ∃ y, y = w5.alloc (.cells (RC d).toArray 27 (0, 0)) := ⟨_, rfl⟩
    obtain ⟨b6, l6⟩ := newB HD hw6
    have HW6 := hide hw6
    have HBD : Hid (B ≤ D) := (show _ ≤ _ by rw [← HB.out, ← HD.out]; have := L5.out.size; exact this)
    have L6 : Hid (Below B w4 w6) := (show Below _ _ _ from L5.out.trans (l6.out.mono (by rw [HD.out]; exact HBD.out)))
    have PD : Hid (d.rs.map plR = r.rs.map plR ∧ d.ws = r.ws) := (show _ ∧ _ from by
      have h := S5.out
      unfold sameB at h
      simp only [Bool.and_eq_true, decide_eq_true_eq, eqX_iff] at h
      exact ⟨h.2.2.2.1.trans PC.out.2.2.2.1, h.2.2.2.2.trans PC.out.2.2.2.2⟩)
    have HDX : Hid (∀ x ∈ d.rs, ∃ y ∈ r.rs, plR y = plR x) := (show ∀ x ∈ d.rs, _ from fun x hx => by
      have hm : plR x ∈ r.rs.map plR := by rw [← PD.out.1]; exact List.mem_map.2 ⟨x, hx, rfl⟩
      obtain ⟨y, hy, e⟩ := List.mem_map.1 hm
      exact ⟨y, hy, e⟩)
    have M6 : Hid (Mut w6 B d 0) := (show Mut _ _ _ _ from Mut.new (O5.out.kept l6.out) (fun x hx => by
      obtain ⟨y, hy, e⟩ := HDX.out x hx
      rw [← (plR_eq9 e).2.1]
      exact (HBR.out.rs y hy).k) (fun x hx p hp => by
      obtain ⟨y, hy, e⟩ := HDX.out x hx
      rw [← (plR_eq9 e).2.2.2] at hp
      exact ((HBR.out.rs y hy).p p hp).2))
    have HPS : Hid (∀ x ∈ d.rs, x.ps.length ≤ 600) := (show ∀ x ∈ d.rs, _ from fun x hx => by
      obtain ⟨y, hy, e⟩ := HDX.out x hx
      rw [← (plR_eq9 e).2.2.2]
      exact LT.out.ps y hy)
    obtain ⟨n, Hn⟩ : ∃ z, Hid (d.rs.length = z) := ⟨_, rfl⟩
    obtain ⟨m, Hm⟩ : ∃ z, Hid (d.ws.length = z) := ⟨_, rfl⟩
    have hn1 : n ≤ 100 := by
      have h := congrArg List.length PD.out.1
      rw [List.length_map, List.length_map, Hn.out] at h
      rw [h]
      exact LT.out.rl
    have hm1 : m ≤ 100 := by
      have h := congrArg List.length PD.out.2
      rw [Hm.out] at h
      rw [h]
      exact LT.out.wl
    obtain ⟨da, Hda⟩ : ∃ z, Hid (d.ra = z) := ⟨_, rfl⟩
    obtain ⟨dc, Hdc⟩ : ∃ z, Hid (d.rc = z) := ⟨_, rfl⟩
    obtain ⟨ea, Hea⟩ : ∃ z, Hid (d.wa = z) := ⟨_, rfl⟩
    obtain ⟨ec, Hec⟩ : ∃ z, Hid (d.wc = z) := ⟨_, rfl⟩
    have HRV : Hid (rv d = .slice da n dc) := (show _ = _ by unfold rv; rw [Hn.out, Hda.out, Hdc.out])
    have HWV : Hid (wv d = .slice ea m ec) := (show _ = _ by unfold wv; rw [Hm.out, Hea.out, Hec.out])
    have HRD : Hid (RC d = [.int .i64 d.ses, .int .i64 d.snap, .bool d.st, .slice da n dc, .slice ea m ec]) := (show _ = _ by
      rw [← HRV.out, ← HWV.out]
      rfl)
    have D6 : Hid (Blk w6 D 27 [.int .i64 d.ses, .int .i64 d.snap, .bool d.st, .slice da n dc, .slice ea m ec]) := (show Blk _ _ _ _ by rw [← HRD.out]; exact b6.out)
    have hax := add_x
    clear hw6
    go_upto_region 5 with (first
      | (refine wpList_store_new rfl 27 _ _ rfl w5 _ (RC d).toArray _ rfl rfl rfl Try.size27 rfl (all_one (RC_one d)) ?_; rw [← HW6.out, HD.out])
      | fail)
    try simp only [Act.put]
    have d3 := D6.out.cell (j := 3) rfl
    go_wp2_with fail
    clear d3
    go_loopg [19] (n + 1) (fun g z wr => ∃ (i : Nat), i ≤ n ∧ g + i = n + 1 ∧ z = .int .i64 (i : Int) ∧ Hid (Mut wr B d (i * 1000)) ∧ Hid (Blk wr D 27 [.int .i64 d.ses, .int .i64 d.snap, .bool d.st, .slice da n dc, .slice ea m ec]) ∧ Hid (Below B w4 wr))
    case atStart => exact ⟨0, Nat.zero_le _, by omega, rfl, M6, D6, L6⟩
    case round =>
      clear M6 D6 L6
      obtain ⟨i, hi, hg, rfl, MR, DR, LR⟩ := hrel
      by_cases hlt : i < n
      · have hlt' : (i : Int) < (n : Int) := by omega
        have hiD : i < d.rs.length := by rw [Hn.out]; exact hlt
        obtain ⟨x, HX⟩ : ∃ x, Hid (d.rs[i] = x) := ⟨d.rs[i], (show d.rs[i] = d.rs[i] from rfl)⟩
        have HXM : Hid (x ∈ d.rs) := (show x ∈ d.rs by rw [← HX.out]; exact List.getElem_mem hiD)
        obtain ⟨q, Hq⟩ : ∃ z, Hid (x.ps.length = z) := ⟨_, rfl⟩
        have hq6 : q ≤ 600 := by rw [← Hq.out]; exact HPS.out x HXM.out
        have HXV : Hid (xv x = .slice x.ha q x.hc) := (show _ = _ by unfold xv; rw [Hq.out])
        obtain ⟨gr, hgr, hgB, hcr⟩ : ∃ gr, da = some ⟨gr, 0, none⟩ ∧ B ≤ gr ∧ ∀ W c, Mut W B d c → W.cell? ⟨gr, i * 4 + 3, none⟩ = some (.slice x.ha q x.hc) ∧ ∃ k : ByteArray, ∃ cur : List Value, W.cell? ⟨gr, i * 4 + 1, none⟩ = some (.string k) ∧ k.size ≤ bigN c ∧ Blk W gr 39 cur ∧ i * 4 + 1 < cur.length := by
          have main : ∀ W c, Mut W B d c → ∃ gr, da = some ⟨gr, 0, none⟩ ∧ B ≤ gr ∧ W.cell? ⟨gr, i * 4 + 3, none⟩ = some (.slice x.ha q x.hc) ∧ ∃ k : ByteArray, ∃ cur : List Value, W.cell? ⟨gr, i * 4 + 1, none⟩ = some (.string k) ∧ k.size ≤ bigN c ∧ Blk W gr 39 cur ∧ i * 4 + 1 < cur.length := by
            intro W c hM
            obtain ⟨⟨L, h1, h2⟩, -, -⟩ := hM
            rw [HRV.out] at h1
            have hLl : L.length = n := h1.rd.len
            have hiL : i < L.length := by omega
            obtain ⟨g, cap, cur, hv, hBg, hB, _, _, hcell⟩ := own_at h1 hiL
            simp only [Value.slice.injEq] at hv
            obtain ⟨rfl, -, -⟩ := hv
            obtain ⟨e1, e2⟩ := h2 i hiL hiD
            rw [HX.out, HXV.out] at e1
            exact ⟨g, rfl, hBg, (hcell 3 _ (by rw [← e1]; rfl)).1, L[i].k, cur, (hcell 1 _ rfl).1, e2, hB, (hcell 1 (.string L[i].k) rfl).2⟩
          obtain ⟨gr, e, hB, _⟩ := main _ _ MR.out
          refine ⟨gr, e, hB, fun W c hM => ?_⟩
          obtain ⟨g2, e2, _, h3, h4⟩ := main W c hM
          rw [e] at e2
          simp only [Option.some.injEq, Addr.mk.injEq, and_true] at e2
          subst e2
          exact ⟨h3, h4⟩
        subst hgr
        have HCR := hide hcr
        have HGB := hide hgB
        clear hcr hgB
        have d3 := DR.out.cell (j := 3) rfl
        have c3 := (HCR.out _ _ MR.out).1
        go_upto_region 8 with fail
        try simp only [Act.put]
        go_wp2_with fail
        clear d3 c3
        have M0 := MR
        have D0 := DR
        have R0 := LR
        go_loopg [29] (q + 1) (fun g z wr => ∃ (k : Nat), k ≤ q ∧ g + k = q + 1 ∧ z = .int .i64 (k : Int) ∧ Hid (Mut wr B d (i * 1000 + k)) ∧ Hid (Blk wr D 27 [.int .i64 d.ses, .int .i64 d.snap, .bool d.st, .slice (some ⟨gr, 0, none⟩) n dc, .slice ea m ec]) ∧ Hid (Below B w4 wr))
        case atStart => exact ⟨0, Nat.zero_le _, by omega, rfl, M0, D0, R0⟩
        case round =>
          clear M0 D0 R0 MR DR LR
          obtain ⟨k, hk, hgk, rfl, MR, DR, LR⟩ := hrel
          by_cases hltk : k < q
          · have hltk' : (k : Int) < (q : Int) := by omega
            have hpq := MR.out.ps x HXM.out
            rw [HXV.out] at hpq
            obtain ⟨P, hP1, hP2⟩ := hpq
            have hPl : P.length = q := hP1.rd.len
            have hkP : k < P.length := by omega
            obtain ⟨g, cap, cur, hv, hBg, hB, _, _, hcell⟩ := own_at hP1 hkP
            simp only [Value.slice.injEq] at hv
            obtain ⟨hxa, -, -⟩ := hv
            have hsz := hP2 _ (List.getElem_mem hkP)
            obtain ⟨va, hva⟩ : ∃ z, P[k].2.1 = z := ⟨_, rfl⟩
            have hcv := hcell 1 (.string P[k].2.1) rfl
            rw [hva] at hcv hsz
            clear hva
            obtain ⟨c1, hcl⟩ := hcv
            have c1 : wr.cell? ⟨g, k * 3 + 1, none⟩ = some (.string va) := c1
            have hcl : k * 3 + 1 < cur.length := hcl
            have HBk := hide hB
            have hvs : va.size ≤ 281474976710656 := by unfold bigN at hsz; omega
            have hax := hax va hvs
            have HSZ : Hid (va.size ≤ bigN (i * 1000 + k)) := hsz
            have HGg := hide hBg
            have d3 := DR.out.cell (j := 3) rfl
            have c3 := (HCR.out _ _ MR.out).1
            rw [hxa] at c3
            have HXA := hide hxa
            clear hP1 hP2 hcell hB hsz hBg hxa hPl hkP
            go_upto_region 11 with fail
            try simp only [Act.put]
            go_wp2_with (first
              | (refine wpList_store_st rfl 9 szst _ _ rfl g (k * 3 + 1) 41 cur _ rfl rfl HBk.out hcl ?_; intro w7 hb7 hu7)
              | fail)
            have M7 : Hid (Mut w7 B d (i * 1000 + (k + 1))) := (show Mut _ _ _ _ from MR.out.pair HBk.out hb7 hu7 (by decide : 1 < 3) (fun p => (p.1, va ++ ⟨#[120]⟩, p.2.2)) (fun p => rfl) (fun p _ => by
              show (va ++ (⟨#[120]⟩ : ByteArray)).size ≤ _
              rw [size_x]
              have h1 := HSZ.out
              unfold bigN at h1 ⊢
              omega))
            have D7 := hide (DR.out.chg (Chg.of_but (F := fun k => k = g) hu7 rfl) (fun e => cells_ne DR.out HBk.out (by decide) e))
            have L7 : Hid (Below B w4 w7) := (show Below _ _ _ from LR.out.trans (hu7.below HGg.out (by have := LR.out.size; have := HB.out; omega)))
            clear hb7 hu7 c1 c3 d3
            go_roundg (q - k)
            case measure => omega
            case rel => exact ⟨k + 1, by omega, by omega, by go_num, M7, D7, L7⟩
          · obtain rfl : k = q := by omega
            have hltk' : ¬ (k : Int) < k := by omega
            obtain ⟨c3, kk, cur, c1, hks, hBr, hcl⟩ := HCR.out _ _ MR.out
            have hvs : kk.size ≤ 281474976710656 := by unfold bigN at hks; omega
            have hax := hax kk hvs
            have HBk := hide hBr
            have HSZ := hide hks
            clear hBr hks
            have d3 := DR.out.cell (j := 3) rfl
            go_upto_region 13 with fail
            try simp only [Act.put]
            go_wp2_with (first
              | (refine wpList_store_st rfl 9 szst _ _ rfl gr (i * 4 + 1) 39 cur _ rfl rfl HBk.out hcl ?_; intro w7 hb7 hu7)
              | fail)
            have M7 : Hid (Mut w7 B d ((i + 1) * 1000)) := (show Mut _ _ _ _ from (MR.out.key HBk.out hb7 hu7 (by
              rw [size_x]
              have h1 := HSZ.out
              unfold bigN at h1 ⊢
              omega)).up (by omega))
            have D7 := hide (DR.out.chg (Chg.of_but (F := fun k => k = gr) hu7 rfl) (fun e => cells_ne DR.out HBk.out (by decide) e))
            have L7 : Hid (Below B w4 w7) := (show Below _ _ _ from LR.out.trans (hu7.below HGB.out (by have := LR.out.size; have := HB.out; omega)))
            clear hb7 hu7 c1 c3 d3
            go_roundg (n - i)
            case measure => omega
            case rel => exact ⟨i + 1, by omega, by omega, by go_num, M7, D7, L7⟩
      · obtain rfl : i = n := by omega
        have hlt' : ¬ (i : Int) < i := by omega
        have d4 := DR.out.cell (j := 4) rfl
        go_wp2_with fail
        clear d4
        have M0 := MR.out.up (show i * 1000 ≤ 100000 + 0 by omega)
        have M0 := hide M0
        have D0 := DR
        have R0 := LR
        go_loopg [59] (m + 1) (fun g z wr => ∃ (k : Nat), k ≤ m ∧ g + k = m + 1 ∧ z = .int .i64 (k : Int) ∧ Hid (Mut wr B d (100000 + k)) ∧ Hid (Blk wr D 27 [.int .i64 d.ses, .int .i64 d.snap, .bool d.st, .slice da i dc, .slice ea m ec]) ∧ Hid (Below B w4 wr))
        case atStart => exact ⟨0, Nat.zero_le _, by omega, rfl, M0, D0, R0⟩
        case round =>
          clear M0 D0 R0 MR DR LR
          obtain ⟨k, hk, hgk, rfl, MR, DR, LR⟩ := hrel
          by_cases hltk : k < m
          · have hltk' : (k : Int) < (m : Int) := by omega
            obtain ⟨P, hP1⟩ := MR.out.ws
            rw [HWV.out] at hP1
            have hPl : P.length = m := hP1.rd.len
            have hkP : k < P.length := by omega
            obtain ⟨g, cap, cur, hv, hBg, hB, _, _, hcell⟩ := own_at hP1 hkP
            simp only [Value.slice.injEq] at hv
            obtain ⟨rfl, -, -⟩ := hv
            obtain ⟨va, hva⟩ : ∃ z, P[k].2.2 = z := ⟨_, rfl⟩
            have hcv := hcell 2 (.bool P[k].2.2) rfl
            rw [hva] at hcv
            clear hva
            obtain ⟨c1, hcl⟩ := hcv
            have C1 : Hid (wr.cell? ⟨g, k * 3 + 2, none⟩ = some (.bool va)) := c1
            have hcl : k * 3 + 2 < cur.length := hcl
            have HBk := hide hB
            have HGg := hide hBg
            clear hP1 hcell hB hBg hPl hkP c1
            go_upto_region 18 with fail
            try simp only [Act.put]
            have HCE : Hid (cur[k * 3 + 2]? = some (.bool va)) := (show _ = _ by
              have h1 := HBk.out.cell (j := k * 3 + 2) (List.getElem?_eq_getElem hcl)
              rw [C1.out] at h1
              rw [List.getElem?_eq_getElem hcl, ← Option.some.inj h1])
            refine wp_region_tails Try.mixed (KS (fun i_ => match i_ with | 0 | 3 => .val (.pointer (some ⟨D, 4, none⟩)) | 1 | 4 => .val (.slice (some ⟨g, 0, none⟩) m ec) | 2 | 5 => .val (.int .i64 (k : Int)) | 6 => .val (.pointer (some ⟨g, k * 3, none⟩)) | 7 => .val (.pointer (some ⟨g, k * 3 + 2, none⟩)) | 8 => .val (.bool va) | 9 => .val (.bool (!va)) | _ => .free)) 81 rfl (by decide +kernel) 10 (by decide) (by decide +kernel) (KS_mono _) ?_ ?_
            · refine AllFrom.cons ⟨rfl, fun a' w' hg hk hd => ?_⟩ (AllFrom.cons ⟨rfl, fun a' w' hg hk hd => ?_⟩ (AllFrom.cons ⟨rfl, fun a' w' hg hk hd => ?_⟩ (AllFrom.cons ⟨rfl, fun a' w' hg hk hd => ?_⟩ (AllFrom.cons ⟨rfl, fun a' w' hg hk hd => ?_⟩ (AllFrom.cons ⟨rfl, fun a' w' hg hk hd => ?_⟩ (AllFrom.cons ⟨rfl, fun a' w' hg hk hd => ?_⟩ (AllFrom.cons ⟨rfl, fun a' w' hg hk hd => ?_⟩ (AllFrom.cons ⟨rfl, fun a' w' hg hk hd => ?_⟩ (AllFrom.cons ⟨rfl, fun a' w' hg hk hd => ?_⟩ AllFrom.nil)))))))))
              · skip
                intro Q
                have e4 : a'.eval (.tmp 4) = .pointer (some ⟨D, 0, none⟩) := hk.at 4 (by decide +kernel)
                clear hd hk
                exact wp_value (.pointer (some ⟨D, 4, none⟩)) (by simp only [execOp, e4]; go_simp) (KS_mkv rfl rfl)
              · skip
                intro Q
                have e62 : a'.eval (.tmp 62) = .pointer (some ⟨D, 4, none⟩) := KS_val (hd.val 0 62 (by decide +kernel)) rfl
                have hc := (DR.out.kept hg).cell (j := 4) rfl
                clear hd hk
                exact wp_value (.slice (some ⟨g, 0, none⟩) m ec) (by simp only [execOp, e62]; go_simp) (KS_mkv rfl rfl)
              · skip
                intro Q
                have e7 : a'.eval (.tmp 7) = .int .i64 (k : Int) := hk.at 7 (by decide +kernel)
                exact wp_value _ (by simp only [execOp, e7]; rfl) (KS_mkv rfl rfl)
              · skip
                intro Q
                have e4 : a'.eval (.tmp 4) = .pointer (some ⟨D, 0, none⟩) := hk.at 4 (by decide +kernel)
                clear hd hk
                exact wp_value (.pointer (some ⟨D, 4, none⟩)) (by simp only [execOp, e4]; go_simp) (KS_mkv rfl rfl)
              · skip
                intro Q
                have e65 : a'.eval (.tmp 65) = .pointer (some ⟨D, 4, none⟩) := KS_val (hd.val 3 65 (by decide +kernel)) rfl
                have hc := (DR.out.kept hg).cell (j := 4) rfl
                clear hd hk
                exact wp_value (.slice (some ⟨g, 0, none⟩) m ec) (by simp only [execOp, e65]; go_simp) (KS_mkv rfl rfl)
              · skip
                intro Q
                have e7 : a'.eval (.tmp 7) = .int .i64 (k : Int) := hk.at 7 (by decide +kernel)
                exact wp_value _ (by simp only [execOp, e7]; rfl) (KS_mkv rfl rfl)
              · skip
                intro Q
                have e66 : a'.eval (.tmp 66) = .slice (some ⟨g, 0, none⟩) m ec := KS_val (hd.val 4 66 (by decide +kernel)) rfl
                have e67 : a'.eval (.tmp 67) = .int .i64 (k : Int) := KS_val (hd.val 5 67 (by decide +kernel)) rfl
                clear hd hk
                exact wp_value (.pointer (some ⟨g, k * 3, none⟩)) (by simp only [execOp, e66, e67]; go_simp) (KS_mkv rfl rfl)
              · skip
                intro Q
                have e68 : a'.eval (.tmp 68) = .pointer (some ⟨g, k * 3, none⟩) := KS_val (hd.val 6 68 (by decide +kernel)) rfl
                clear hd hk
                exact wp_value (.pointer (some ⟨g, k * 3 + 2, none⟩)) (by simp only [execOp, e68]; go_simp) (KS_mkv rfl rfl)
              · skip
                intro Q
                have e69 : a'.eval (.tmp 69) = .pointer (some ⟨g, k * 3 + 2, none⟩) := KS_val (hd.val 7 69 (by decide +kernel)) rfl
                have hc := (HBk.out.kept hg).cell (j := k * 3 + 2) (v := .bool va) (HCE.out)
                clear hd hk
                exact wp_value (.bool va) (by simp only [execOp, e69]; go_simp) (KS_mkv rfl rfl)
              · skip
                intro Q
                have e70 : a'.eval (.tmp 70) = .bool va := KS_val (hd.val 8 70 (by decide +kernel)) rfl
                clear hd hk
                exact wp_value (.bool (!va)) (by simp only [execOp, e70]; go_simp) (KS_mkv rfl rfl)
            · intro a' w5 hsz hdf hk hall hg2
              have L5b : Hid (Below wr.heap.size wr w5) := (show Below _ _ _ from hg2)
              clear hg2
              have e62 : a'.eval (.tmp 62) = .pointer (some ⟨D, 4, none⟩) := KS_val (hall 0 _ 62 (by decide) rfl rfl) rfl
              have e63 : a'.eval (.tmp 63) = .slice (some ⟨g, 0, none⟩) m ec := KS_val (hall 1 _ 63 (by decide) rfl rfl) rfl
              have e64 : a'.eval (.tmp 64) = .int .i64 (k : Int) := KS_val (hall 2 _ 64 (by decide) rfl rfl) rfl
              have e65 : a'.eval (.tmp 65) = .pointer (some ⟨D, 4, none⟩) := KS_val (hall 3 _ 65 (by decide) rfl rfl) rfl
              have e66 : a'.eval (.tmp 66) = .slice (some ⟨g, 0, none⟩) m ec := KS_val (hall 4 _ 66 (by decide) rfl rfl) rfl
              have e67 : a'.eval (.tmp 67) = .int .i64 (k : Int) := KS_val (hall 5 _ 67 (by decide) rfl rfl) rfl
              have e68 : a'.eval (.tmp 68) = .pointer (some ⟨g, k * 3, none⟩) := KS_val (hall 6 _ 68 (by decide) rfl rfl) rfl
              have e69 : a'.eval (.tmp 69) = .pointer (some ⟨g, k * 3 + 2, none⟩) := KS_val (hall 7 _ 69 (by decide) rfl rfl) rfl
              have e70 : a'.eval (.tmp 70) = .bool va := KS_val (hall 8 _ 70 (by decide) rfl rfl) rfl
              have e71 : a'.eval (.tmp 71) = .bool (!va) := KS_val (hall 9 _ 71 (by decide) rfl rfl) rfl
              obtain ⟨x72, hx72⟩ : ∃ v, a'.eval (.tmp 72) = v := ⟨_, rfl⟩
              obtain ⟨x73, hx73⟩ : ∃ v, a'.eval (.tmp 73) = v := ⟨_, rfl⟩
              have ha := act_puts 81 rfl hsz hdf hk [62, 63, 64, 65, 66, 67, 68, 69, 70, 71, 72, 73] (by decide +kernel)
              simp only [puts, List.foldl_cons, List.foldl_nil, e62, e63, e64, e65, e66, e67, e68, e69, e70, e71, hx72, hx73] at ha
              simp only [Act.put, List.setIfInBounds_toArray, List.set_cons_succ, List.set_cons_zero] at ha
              clear hall hk hsz hdf e62 e63 e64 e65 e66 e67 e68 e69 e70 e71 hx72 hx73
              subst ha
              have B5 := hide (HBk.out.kept L5b.out)
              refine wpSeq_val rfl (.pointer (some ⟨g, k * 3, none⟩)) (by simp only [execOp]; go_simp) ?_
              refine wpSeq_val rfl (.pointer (some ⟨g, k * 3 + 2, none⟩)) (by simp only [execOp]; go_simp) ?_
              refine wpSeq_store_bo rfl 4 szbo _ _ rfl g (k * 3 + 2) 41 cur _ rfl rfl B5.out hcl ?_
              intro w7 hb7 hu7
              have M7 : Hid (Mut w7 B d (100000 + (k + 1))) := (show Mut _ _ _ _ from (MR.out.kept L5b.out).pair B5.out hb7 hu7 (by decide : 2 < 3) (fun p => (p.1, p.2.1, !va)) (fun p => rfl) (fun p hp => Nat.le_trans hp (bigN_mono (Nat.le_succ _))))
              have D7 := hide ((DR.out.kept L5b.out).chg (Chg.of_but (F := fun k => k = g) hu7 rfl) (fun e => cells_ne (DR.out.kept L5b.out) B5.out (by decide) e))
              have hbs : B ≤ wr.heap.size := by have := LR.out.size; have := HB.out; omega
              have L7 : Hid (Below B w4 w7) := (show Below _ _ _ from (LR.out.trans (L5b.out.mono hbs)).trans (hu7.below HGg.out (by have := L5b.out.size; omega)))
              simp only [wpSeq]
              clear hb7 hu7 hcl
              go_wp2_with fail
              go_roundg (m - k)
              case measure => omega
              case rel => exact ⟨k + 1, by omega, by omega, by go_num, M7, D7, L7⟩
          · obtain rfl : k = m := by omega
            have hltk' : ¬ (k : Int) < k := by omega
            have LRw : Hid (Below w4.heap.size w4 wr) := (show Below _ _ _ by rw [HB.out]; exact LR.out)
            have LN : Hid (Below w1.heap.size w1 wr) := (show Below _ _ _ from L4.out.trans (LRw.out.mono L4.out.size))
            have CS := hide (same14_any (CO4.out.kept LRw.out) (RO.out.kept LN.out))
            rw [S3.out] at CS
            have rkc := (b4.out.kept LRw.out).range0
            have rkr := (b1.out.kept LN.out).range0
            go_wp2_with (first
              | (refine wpList_load_mid rfl 27 _ rfl C 0 rfl (RC c) _ rkc Try.underlying27 rfl Try.size27 ?_)
              | (refine wpList_load_mid rfl 27 _ rfl N 0 rfl (RC r) _ rkr Try.underlying27 rfl Try.size27 ?_)
              | fail)
            refine CS.out.mono ?_
            rintro e w8 ⟨rfl, hb8⟩
            have L8 : Hid (Below w1.heap.size w1 w8) := (show Below _ _ _ from LN.out.trans (hb8.mono LN.out.size))
            clear hb8 CS rkc rkr
            have CV := hide (lives_any w8)
            go_wp2_with fail
            refine CV.out.mono ?_
            rintro e w9 ⟨rfl, hb9⟩
            have L9 : Hid (Below w.heap.size w w9) := (show Below _ _ _ from l1.out.trans ((L8.out.trans (hb9.mono L8.out.size)).mono l1.out.size))
            clear hb9 CV
            go_wp2_with fail
            go_ret
            exact ⟨rfl, L9.out⟩
#print axioms recordOwn_any
end Go.Proofs.Ytmicmbjbclkbjaa
