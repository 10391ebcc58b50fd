/-
  sha.Parse, indentureref03.Parse: what the calls do.
-/
import Derived.Test.YtlfgbgcjajbckaaDoorParse
namespace Go.Proofs.YtlfgbgcjajbckaaDoor
open Go.RowKit
theorem Tryd.size24 : (Tryd.prog.info? 24).map (·.size) = some 32 := by kernel_rfl
theorem or_nib : ∀ a, a < 16 → ∀ b, b < 16 → (a * 16) ||| b = a * 16 + b := by decide
theorem or_nibs (a b : Nat) (ha : a < 16) (hb : b < 16) : bits .or .i64 ((a : Int) * 16) (b : Int) = ((a * 16 + b : Nat) : Int) := by
  have h16 : ((a : Int) * 16) = ((a * 16 : Nat) : Int) := by omega
  rw [h16]
  show IntKind.i64.wrap ((BitVec.ofInt 64 ((a * 16 : Nat) : Int) ||| BitVec.ofInt 64 (b : Int)).toNat : Int) = _
  rw [BitVec.toNat_or, ofInt_u64 _ (by omega), ofInt_u64 b (by omega), or_nib a ha b hb]
  exact IntWalk.i64_in _ (by omega)
theorem wpList_build {P : Program} {ops : Array Oper} {rest : List Oper} {op : Oper} {a : Act} {w : World} {Q : Exit → Act → World → Prop} (hgd : op.guard = none) (t : TypeId) (ps : Array (Nat × Operand)) (_ : op.op = .build t ps) (v : Value)
    (hrun : (execOp a.eval op).run P w = .ok (.value v) w) (h : wpList P ops Q rest (a.put op.dst v) w) : wpList P ops Q (op :: rest) a w := by
  refine wpList_plain hgd fun K hK => ?_
  unfold Oper.wp
  rw [hrun]
  exact hK _ _ h
theorem res12 (tmps : Array Value) (W : World) (g : Nat) (x : Bool) (L : List Value) (h2 : tmps.getD 2 undef = .pointer (some ⟨g, 0, none⟩)) (h3 : tmps.getD 3 undef = .bool x)
    (hg : Blk W g 25 L) (hL : L.length = 32) : (results Tryd.f12 tmps).run Tryd.prog W = .ok (.tuple #[.agg L.toArray, .bool x]) W := by
  rw [results_cell_tmp (show Tryd.f12.results = #[.cell 2 25, .tmp 3] from rfl), h2, h3]
  have hl := run_loadVar_row (P := Tryd.prog) W g 25 25 L.toArray (0, 0) (.array 32 5) hg Tryd.underlying25 rfl (by rw [Tryd.size25]; simp [hL])
  simp [asAddr, hl, Result.andThen]
set_option maxHeartbeats 1000000 in
set_option maxRecDepth 100000 in
theorem parse_any (l : List UInt8) (w : World) : Calls Tryd.prog 12 #[.string ⟨l.toArray⟩] w fun e w' => e = .returned (.tuple #[.agg (By (prs l)).toArray, .bool (okd l)]) ∧ Below w.heap.size w w' := by
  have hsz : (⟨l.toArray⟩ : ByteArray).size = l.length := by simp [ByteArray.size]
  obtain ⟨N, HN⟩ : ∃ N, Hid (w.heap.size = N) := ⟨_, rfl⟩
  obtain ⟨Z, HZ0⟩ : ∃ Z, Hid (Zh = Z) := ⟨_, rfl⟩
  have hzl : Z.length = 32 := by rw [← HZ0.out]; rfl
  have HZ1 : Hid (∀ u ∈ Z, u.oneCell' = true) := (show ∀ u ∈ Z, _ by rw [← HZ0.out]; exact By_one _)
  go_enter Tryd.func12, Tryd.ntmps12
  go_upto_region 2 with fail
  rw [HN.out]
  change Code.wp _ _ _ _ ((w.alloc (.cells Zh.toArray 25 (0, 0))).alloc (.cells Zh.toArray 25 (0, 0)))
  rw [HZ0.out]
  obtain ⟨w1, hw1⟩ : ∃ x, x = (w.alloc (.cells Z.toArray 25 (0, 0))).alloc (.cells Z.toArray 25 (0, 0)) := ⟨_, rfl⟩
  rw [← hw1]
  have O1 : Hid (Blk w1 N 25 Z) := (show Blk _ _ _ _ by rw [hw1, ← HN.out]; exact (Blk.new w 25 Z).alloc _)
  have T1 : Hid (Blk w1 (N + 1) 25 (By (vzs l 0))) := (show Blk _ _ _ _ by
    have := Blk.new (w.alloc (.cells Z.toArray 25 (0, 0))) 25 Z
    rw [show (w.alloc (.cells Z.toArray 25 (0, 0))).heap.size = N + 1 by simp [HN.out]] at this
    rw [show By (vzs l 0) = Z from HZ0.out, hw1]; exact this)
  have L1 : Hid (Below N w w1) := (show Below _ _ _ by rw [hw1]; exact ((Below.refl _ _).alloc (by rw [HN.out]; exact Nat.le_refl _) _).alloc (by simp [HN.out]) _)
  clear hw1
  have HEnd : Hid (∀ wr : World, Below N w wr → Blk wr N 25 Z → Blk (wr.setCells N 0 Z) N 25 Z ∧ Below N w (wr.setCells N 0 Z)) := (show ∀ wr : World, _ → _ → _ from fun wr h1 h2 => by
    have := h2.over Z 0 (by simp)
    rw [over_all _ _ rfl] at this
    exact ⟨this, h1.trans ((But.setCells N Z 0 wr).below (Nat.le_refl _) (Nat.le_of_lt h2.lt))⟩)
  by_cases h64 : l.length = 64
  · have q0 : (l.length : Int) = 64 := by omega
    go_wp2
    go_loopg [12] 33 (fun g x wr => Hid (Below N w wr) ∧ ∃ i : Nat, i ≤ 32 ∧ g + i = 33 ∧ x = .int .i64 i ∧ Hid (Blk wr N 25 Z) ∧ Hid (Blk wr (N + 1) 25 (By (vzs l i))) ∧ Hid (∀ j, j < i → okAt l j))
    case atStart => exact ⟨L1, 0, by omega, by omega, rfl, O1, T1, fun j hj => by omega⟩
    case round =>
      clear T1 L1 O1
      obtain ⟨L1, i, hi, hgk, rfl, O1, T1, HK⟩ := hrel
      by_cases hlt : i < 32
      · have q1 : (i : Int) < 32 := by omega
        obtain ⟨a0, H0⟩ : ∃ a0, Hid (2 * i = a0) := ⟨_, rfl⟩
        obtain ⟨a1, H1⟩ : ∃ a1, Hid (2 * i + 1 = a1) := ⟨_, rfl⟩
        have w0 : IntKind.i64.wrap (2 * (i : Int)) = (a0 : Int) := (IntWalk.i64_in _ (by omega)).trans (by have := H0.out; omega)
        have w1' : IntKind.i64.wrap ((a0 : Int) + 1) = (a1 : Int) := (IntWalk.i64_in _ (by have := H0.out; omega)).trans (by have := H0.out; have := H1.out; omega)
        have d0 := str_index l a0 (by have := H0.out; omega)
        have d1 := str_index l a1 (by have := H1.out; omega)
        have D0 : Hid _ := digit_any (gB l a0)
        have D1 : Hid _ := digit_any (gB l a1)
        have HA : Hid (okAt l i ↔ 0 ≤ dv (gB l a0) ∧ 0 ≤ dv (gB l a1)) := (show _ ↔ _ by unfold okAt; rw [H1.out, H0.out])
        have HZ : Hid (vz l i = UInt8.ofNat ((dv (gB l a0)).toNat * 16 + (dv (gB l a1)).toNat)) := (show _ = _ by unfold vz; rw [H1.out, H0.out])
        have m0 := dv_lt (gB l a0)
        have m1 := dv_lt (gB l a1)
        generalize dv (gB l a0) = y0 at *
        generalize dv (gB l a1) = y1 at *
        go_wp2_with fail
        refine wp_region_still_lit Tryd.mixed (by kernel_rfl) ?_
        repeat still_step
        still_call (D0.out _)
        repeat still_step
        still_call (D1.out _)
        repeat still_step
        refine wpStill_nil ?_
        generalize hq : ({ wr with drawn := wr.drawn + 1 } : World) = w2
        have O2 : Hid (Blk w2 N 25 Z) := by rw [← hq]; exact O1.out
        have T2 : Hid (Blk w2 (N + 1) 25 (By (vzs l i))) := by rw [← hq]; exact T1.out
        have L2 : Hid (Below N w w2) := by rw [← hq]; exact L1.out.drew
        clear hq O1 T1 L1 d0 d1 D0 D1
        by_cases hy : 0 ≤ y0 ∧ 0 ≤ y1
        · obtain ⟨n0, rfl⟩ := Int.eq_ofNat_of_zero_le hy.1
          obtain ⟨n1, rfl⟩ := Int.eq_ofNat_of_zero_le hy.2
          have r0 : ¬ (n0 : Int) < 0 := by omega
          have r1 : ¬ (n1 : Int) < 0 := by omega
          have hor : bits .or .i64 (wrap64 ((n0 : Int) * 16)) (n1 : Int) = ((n0 * 16 + n1 : Nat) : Int) := by
            rw [show wrap64 ((n0 : Int) * 16) = (n0 : Int) * 16 from IntWalk.wrap64_in _ (by omega)]
            exact or_nibs n0 n1 (by omega) (by omega)
          have HK' : Hid (∀ j, j < i + 1 → okAt l j) := (show ∀ j, _ → _ from fun j hj => by
            rcases Nat.lt_or_ge j i with h | h
            · exact HK.out j h
            · obtain rfl : j = i := by omega
              exact HA.out.2 hy)
          simp only [Int.toNat_natCast] at HZ
          obtain ⟨s, HS⟩ : ∃ s, Hid (n0 * 16 + n1 = s) := ⟨_, rfl⟩
          rw [HS.out] at HZ hor
          have E1 : Hid (wrap64 (wrap64 (16 * (n0 : Int)) + (n1 : Int)) % 256 = (s : Int)) := (show _ = _ by rw [IntWalk.wrap64_in (16 * (n0 : Int)) (by omega)]; rw [IntWalk.wrap64_in _ (by omega)]; have := HS.out; omega)
          have e2 := u8_of s
          have hs256 : s < 256 := by have := HS.out; omega
          rw [← HZ.out] at e2
          have e3 : ((vz l i).toNat : Int) = (s : Int) := by rw [← e2]; simp [IntKind.wrap_u8']; omega
          have e4 : (s : Int) % 256 = (s : Int) := by omega
          have k1 := T2.out.cell (By_getB (l := vzs l i) (j := i) (by rw [vzs_length l i hi]; exact hlt))
          have k2 := T2.out.frozen i
          have HE : Hid _ := vzs_set l i hlt
          clear hy m0 m1 HA HZ
          generalize vz l i = z at *
          go_wp2
          go_roundg (gk - 1)
          case measure => omega
          case rel =>
            have hwr := T2.out.lt
            refine ⟨L2.out.trans ((But.setCell (N + 1) _ _ _).below (by omega) (by omega)), i + 1, by omega, by omega, by go_num, O2.out.set_other (by omega) _ _, ?_, HK'⟩
            show Blk _ _ _ _
            have := T2.out.set i (.int .u8 (z.toNat : Int))
            rw [By_set, HE.out, e3] at this
            exact this
        · have HO : Hid (okd l = false) := okd_not hlt (fun h => hy (HA.out.1 h))
          have HP : Hid (prs l = List.replicate 32 0) := prs_none HO.out
          have t0 : Hid (w2.there N 0 32) := O2.out.there 0 32 (by simp [hzl])
          obtain ⟨hb9, hl9⟩ := HEnd.out w2 L2.out O2.out
          have HB9 : Hid _ := hb9
          have HL9 : Hid _ := hl9
          clear hb9 hl9
          by_cases hy0 : y0 < 0
          · clear hy
            go_wp2_with (first
              | (refine wpList_build rfl 25 _ rfl (.agg Zh.toArray) (by kernel_rfl) ?_; rw [HZ0.out])
              | (refine wpList_store_mid rfl 25 _ _ rfl N 0 Z.toArray rfl rfl (by simpa [hzl] using t0.out) (by simpa [hzl] using Tryd.size25) (all_one HZ1.out) ?_)
              | fail)
            refine bodyPost_ret (res12 _ _ N false Z rfl rfl HB9.out hzl) rfl ⟨by rw [HO.out, HP.out, ← HZ0.out]; rfl, by rw [HN.out]; exact HL9.out⟩
          · have hy1 : y1 < 0 := by omega
            clear hy
            go_wp2_with (first
              | (refine wpList_build rfl 25 _ rfl (.agg Zh.toArray) (by kernel_rfl) ?_; rw [HZ0.out])
              | (refine wpList_store_mid rfl 25 _ _ rfl N 0 Z.toArray rfl rfl (by simpa [hzl] using t0.out) (by simpa [hzl] using Tryd.size25) (all_one HZ1.out) ?_)
              | fail)
            refine bodyPost_ret (res12 _ _ N false Z rfl rfl HB9.out hzl) rfl ⟨by rw [HO.out, HP.out, ← HZ0.out]; rfl, by rw [HN.out]; exact HL9.out⟩
      · obtain rfl : i = 32 := by omega
        have HO : Hid (okd l = true) := okd_all h64 HK.out
        have HP : Hid (prs l = vzs l 32) := prs_some HO.out
        obtain ⟨D, HD⟩ : ∃ D, Hid (By (vzs l 32) = D) := ⟨_, rfl⟩
        have hdl : D.length = 32 := by rw [← HD.out, By_length]; exact vzs_length l 32 (by omega)
        have HD1 : Hid (∀ u ∈ D, u.oneCell' = true) := (show ∀ u ∈ D, _ by rw [← HD.out]; exact By_one _)
        rw [HD.out] at T1
        have r0 : Hid (wr.rangeAt (N + 1) 0 D) := T1.out.range0
        have t0 : Hid (wr.there N 0 32) := O1.out.there 0 32 (by simp [hzl])
        have HB9 : Hid (Blk (wr.setCells N 0 D) N 25 D) := (show Blk _ _ _ _ by
          have := O1.out.over D 0 (by simp [hzl, hdl])
          rw [over_all _ _ (by rw [hzl, hdl])] at this
          exact this)
        have HL9 : Hid (Below N w (wr.setCells N 0 D)) := L1.out.trans ((But.setCells N D 0 wr).below (Nat.le_refl _) (Nat.le_of_lt O1.out.lt))
        go_wp2_with (first
          | (refine wpList_load_mid rfl 25 _ rfl (N + 1) 0 rfl D _ r0.out Tryd.underlying25 rfl (by rw [hdl]; exact Tryd.size25) ?_)
          | (refine wpList_store_mid rfl 25 _ _ rfl N 0 D.toArray rfl rfl (by simpa [hdl] using t0.out) (by simpa [hdl] using Tryd.size25) (all_one HD1.out) ?_)
          | fail)
        refine bodyPost_ret (res12 _ _ N true D rfl rfl HB9.out hdl) rfl ⟨by rw [HO.out, HP.out, HD.out], by rw [HN.out]; exact HL9.out⟩
  · have HO : Hid (okd l = false) := okd_short h64
    have HP : Hid (prs l = List.replicate 32 0) := prs_none HO.out
    have q1 : ¬ (l.length : Int) = 64 := by omega
    have t0 : Hid (w1.there N 0 32) := O1.out.there 0 32 (by simp [hzl])
    obtain ⟨hb9, hl9⟩ := HEnd.out w1 L1.out O1.out
    have HB9 : Hid _ := hb9
    have HL9 : Hid _ := hl9
    clear hb9 hl9
    go_wp2_with (first
      | (refine wpList_build rfl 25 _ rfl (.agg Zh.toArray) (by kernel_rfl) ?_; rw [HZ0.out])
      | (refine wpList_store_mid rfl 25 _ _ rfl N 0 Z.toArray rfl rfl (by simpa [hzl] using t0.out) (by simpa [hzl] using Tryd.size25) (all_one HZ1.out) ?_)
      | fail)
    refine bodyPost_ret (res12 _ _ N false Z rfl rfl HB9.out hzl) rfl ⟨by rw [HO.out, HP.out, ← HZ0.out]; rfl, by rw [HN.out]; exact HL9.out⟩
theorem res13 (tmps : Array Value) (W : World) (g : Nat) (x : Bool) (L : List Value) (h2 : tmps.getD 2 undef = .pointer (some ⟨g, 0, none⟩)) (h3 : tmps.getD 3 undef = .bool x)
    (hg : Blk W g 24 L) (hL : L.length = 32) : (results Tryd.f13 tmps).run Tryd.prog W = .ok (.tuple #[.agg L.toArray, .bool x]) W := by
  rw [results_cell_tmp (show Tryd.f13.results = #[.cell 2 24, .tmp 3] from rfl), h2, h3]
  have hl := run_loadVar_row (P := Tryd.prog) W g 24 24 L.toArray (0, 0) (.array 32 5) hg Tryd.underlying24 rfl (by rw [Tryd.size24]; simp [hL])
  simp [asAddr, hl, Result.andThen]
set_option maxHeartbeats 1000000 in
set_option maxRecDepth 100000 in
theorem refParse_any (l : List UInt8) (w : World) : Calls Tryd.prog 13 #[.string ⟨l.toArray⟩] w fun e w' => e = .returned (.tuple #[.agg (By (prs l)).toArray, .bool (okd l)]) ∧ Below w.heap.size w w' := by
  have hsz : (⟨l.toArray⟩ : ByteArray).size = l.length := by simp [ByteArray.size]
  obtain ⟨N, HN⟩ : ∃ N, Hid (w.heap.size = N) := ⟨_, rfl⟩
  obtain ⟨Z, HZ0⟩ : ∃ Z, Hid (Zh = Z) := ⟨_, rfl⟩
  have hzl : Z.length = 32 := by rw [← HZ0.out]; rfl
  have HZ1 : Hid (∀ u ∈ Z, u.oneCell' = true) := (show ∀ u ∈ Z, _ by rw [← HZ0.out]; exact By_one _)
  go_enter Tryd.func13, Tryd.ntmps13
  go_upto_region 2 with fail
  rw [HN.out]
  change Code.wp _ _ _ _ ((w.alloc (.cells Zh.toArray 24 (0, 0))).alloc (.cells Zh.toArray 24 (0, 0)))
  rw [HZ0.out]
  obtain ⟨w1, hw1⟩ : ∃ x, x = (w.alloc (.cells Z.toArray 24 (0, 0))).alloc (.cells Z.toArray 24 (0, 0)) := ⟨_, rfl⟩
  rw [← hw1]
  have O1 : Hid (Blk w1 N 24 Z) := (show Blk _ _ _ _ by rw [hw1, ← HN.out]; exact (Blk.new w 24 Z).alloc _)
  have T1 : Hid (Blk w1 (N + 1) 24 (By (vzs l 0))) := (show Blk _ _ _ _ by
    have := Blk.new (w.alloc (.cells Z.toArray 24 (0, 0))) 24 Z
    rw [show (w.alloc (.cells Z.toArray 24 (0, 0))).heap.size = N + 1 by simp [HN.out]] at this
    rw [show By (vzs l 0) = Z from HZ0.out, hw1]; exact this)
  have L1 : Hid (Below N w w1) := (show Below _ _ _ by rw [hw1]; exact ((Below.refl _ _).alloc (by rw [HN.out]; exact Nat.le_refl _) _).alloc (by simp [HN.out]) _)
  clear hw1
  have HEnd : Hid (∀ wr : World, Below N w wr → Blk wr N 24 Z → Blk (wr.setCells N 0 Z) N 24 Z ∧ Below N w (wr.setCells N 0 Z)) := (show ∀ wr : World, _ → _ → _ from fun wr h1 h2 => by
    have := h2.over Z 0 (by simp)
    rw [over_all _ _ rfl] at this
    exact ⟨this, h1.trans ((But.setCells N Z 0 wr).below (Nat.le_refl _) (Nat.le_of_lt h2.lt))⟩)
  by_cases h64 : l.length = 64
  · have q0 : (l.length : Int) = 64 := by omega
    go_wp2
    go_loopg [5] 33 (fun g x wr => Hid (Below N w wr) ∧ ∃ i : Nat, i ≤ 32 ∧ g + i = 33 ∧ x = .int .i64 i ∧ Hid (Blk wr N 24 Z) ∧ Hid (Blk wr (N + 1) 24 (By (vzs l i))) ∧ Hid (∀ j, j < i → okAt l j))
    case atStart => exact ⟨L1, 0, by omega, by omega, rfl, O1, T1, fun j hj => by omega⟩
    case round =>
      clear T1 L1 O1
      obtain ⟨L1, i, hi, hgk, rfl, O1, T1, HK⟩ := hrel
      by_cases hlt : i < 32
      · have q1 : (i : Int) < 32 := by omega
        obtain ⟨a0, H0⟩ : ∃ a0, Hid (2 * i = a0) := ⟨_, rfl⟩
        obtain ⟨a1, H1⟩ : ∃ a1, Hid (2 * i + 1 = a1) := ⟨_, rfl⟩
        have w0 : IntKind.i64.wrap (2 * (i : Int)) = (a0 : Int) := (IntWalk.i64_in _ (by omega)).trans (by have := H0.out; omega)
        have w1' : IntKind.i64.wrap ((a0 : Int) + 1) = (a1 : Int) := (IntWalk.i64_in _ (by have := H0.out; omega)).trans (by have := H0.out; have := H1.out; omega)
        have d0 := str_index l a0 (by have := H0.out; omega)
        have d1 := str_index l a1 (by have := H1.out; omega)
        have D0 : Hid _ := refDigit_any (gB l a0)
        have D1 : Hid _ := refDigit_any (gB l a1)
        have HA : Hid (okAt l i ↔ 0 ≤ dv (gB l a0) ∧ 0 ≤ dv (gB l a1)) := (show _ ↔ _ by unfold okAt; rw [H1.out, H0.out])
        have HZ : Hid (vz l i = UInt8.ofNat ((dv (gB l a0)).toNat * 16 + (dv (gB l a1)).toNat)) := (show _ = _ by unfold vz; rw [H1.out, H0.out])
        have m0 := dv_lt (gB l a0)
        have m1 := dv_lt (gB l a1)
        generalize dv (gB l a0) = y0 at *
        generalize dv (gB l a1) = y1 at *
        go_wp2_with fail
        refine wp_region_still_lit Tryd.mixed (by kernel_rfl) ?_
        repeat still_step
        still_call (D0.out _)
        repeat still_step
        still_call (D1.out _)
        repeat still_step
        refine wpStill_nil ?_
        generalize hq : ({ wr with drawn := wr.drawn + 1 } : World) = w2
        have O2 : Hid (Blk w2 N 24 Z) := by rw [← hq]; exact O1.out
        have T2 : Hid (Blk w2 (N + 1) 24 (By (vzs l i))) := by rw [← hq]; exact T1.out
        have L2 : Hid (Below N w w2) := by rw [← hq]; exact L1.out.drew
        clear hq O1 T1 L1 d0 d1 D0 D1
        by_cases hy : 0 ≤ y0 ∧ 0 ≤ y1
        · obtain ⟨n0, rfl⟩ := Int.eq_ofNat_of_zero_le hy.1
          obtain ⟨n1, rfl⟩ := Int.eq_ofNat_of_zero_le hy.2
          have r0 : ¬ (n0 : Int) < 0 := by omega
          have r1 : ¬ (n1 : Int) < 0 := by omega
          have hor : bits .or .i64 (wrap64 ((n0 : Int) * 16)) (n1 : Int) = ((n0 * 16 + n1 : Nat) : Int) := by
            rw [show wrap64 ((n0 : Int) * 16) = (n0 : Int) * 16 from IntWalk.wrap64_in _ (by omega)]
            exact or_nibs n0 n1 (by omega) (by omega)
          have HK' : Hid (∀ j, j < i + 1 → okAt l j) := (show ∀ j, _ → _ from fun j hj => by
            rcases Nat.lt_or_ge j i with h | h
            · exact HK.out j h
            · obtain rfl : j = i := by omega
              exact HA.out.2 hy)
          simp only [Int.toNat_natCast] at HZ
          obtain ⟨s, HS⟩ : ∃ s, Hid (n0 * 16 + n1 = s) := ⟨_, rfl⟩
          rw [HS.out] at HZ hor
          have E1 : Hid (wrap64 (wrap64 (16 * (n0 : Int)) + (n1 : Int)) % 256 = (s : Int)) := (show _ = _ by rw [IntWalk.wrap64_in (16 * (n0 : Int)) (by omega)]; rw [IntWalk.wrap64_in _ (by omega)]; have := HS.out; omega)
          have e2 := u8_of s
          have hs256 : s < 256 := by have := HS.out; omega
          rw [← HZ.out] at e2
          have e3 : ((vz l i).toNat : Int) = (s : Int) := by rw [← e2]; simp [IntKind.wrap_u8']; omega
          have e4 : (s : Int) % 256 = (s : Int) := by omega
          have k1 := T2.out.cell (By_getB (l := vzs l i) (j := i) (by rw [vzs_length l i hi]; exact hlt))
          have k2 := T2.out.frozen i
          have HE : Hid _ := vzs_set l i hlt
          clear hy m0 m1 HA HZ
          generalize vz l i = z at *
          go_wp2
          go_roundg (gk - 1)
          case measure => omega
          case rel =>
            have hwr := T2.out.lt
            refine ⟨L2.out.trans ((But.setCell (N + 1) _ _ _).below (by omega) (by omega)), i + 1, by omega, by omega, by go_num, O2.out.set_other (by omega) _ _, ?_, HK'⟩
            show Blk _ _ _ _
            have := T2.out.set i (.int .u8 (z.toNat : Int))
            rw [By_set, HE.out, e3] at this
            rw [E1.out]
            exact this
        · have HO : Hid (okd l = false) := okd_not hlt (fun h => hy (HA.out.1 h))
          have HP : Hid (prs l = List.replicate 32 0) := prs_none HO.out
          have t0 : Hid (w2.there N 0 32) := O2.out.there 0 32 (by simp [hzl])
          obtain ⟨hb9, hl9⟩ := HEnd.out w2 L2.out O2.out
          have HB9 : Hid _ := hb9
          have HL9 : Hid _ := hl9
          clear hb9 hl9
          by_cases hy0 : y0 < 0
          · clear hy
            go_wp2_with (first
              | (refine wpList_build rfl 24 _ rfl (.agg Zh.toArray) (by kernel_rfl) ?_; rw [HZ0.out])
              | (refine wpList_store_mid rfl 24 _ _ rfl N 0 Z.toArray rfl rfl (by simpa [hzl] using t0.out) (by simpa [hzl] using Tryd.size24) (all_one HZ1.out) ?_)
              | fail)
            refine bodyPost_ret (res13 _ _ N false Z rfl rfl HB9.out hzl) rfl ⟨by rw [HO.out, HP.out, ← HZ0.out]; rfl, by rw [HN.out]; exact HL9.out⟩
          · have hy1 : y1 < 0 := by omega
            clear hy
            go_wp2_with (first
              | (refine wpList_build rfl 24 _ rfl (.agg Zh.toArray) (by kernel_rfl) ?_; rw [HZ0.out])
              | (refine wpList_store_mid rfl 24 _ _ rfl N 0 Z.toArray rfl rfl (by simpa [hzl] using t0.out) (by simpa [hzl] using Tryd.size24) (all_one HZ1.out) ?_)
              | fail)
            refine bodyPost_ret (res13 _ _ N false Z rfl rfl HB9.out hzl) rfl ⟨by rw [HO.out, HP.out, ← HZ0.out]; rfl, by rw [HN.out]; exact HL9.out⟩
      · obtain rfl : i = 32 := by omega
        have HO : Hid (okd l = true) := okd_all h64 HK.out
        have HP : Hid (prs l = vzs l 32) := prs_some HO.out
        obtain ⟨D, HD⟩ : ∃ D, Hid (By (vzs l 32) = D) := ⟨_, rfl⟩
        have hdl : D.length = 32 := by rw [← HD.out, By_length]; exact vzs_length l 32 (by omega)
        have HD1 : Hid (∀ u ∈ D, u.oneCell' = true) := (show ∀ u ∈ D, _ by rw [← HD.out]; exact By_one _)
        rw [HD.out] at T1
        have r0 : Hid (wr.rangeAt (N + 1) 0 D) := T1.out.range0
        have t0 : Hid (wr.there N 0 32) := O1.out.there 0 32 (by simp [hzl])
        have HB9 : Hid (Blk (wr.setCells N 0 D) N 24 D) := (show Blk _ _ _ _ by
          have := O1.out.over D 0 (by simp [hzl, hdl])
          rw [over_all _ _ (by rw [hzl, hdl])] at this
          exact this)
        have HL9 : Hid (Below N w (wr.setCells N 0 D)) := L1.out.trans ((But.setCells N D 0 wr).below (Nat.le_refl _) (Nat.le_of_lt O1.out.lt))
        go_wp2_with (first
          | (refine wpList_load_mid rfl 24 _ rfl (N + 1) 0 rfl D _ r0.out Tryd.underlying24 rfl (by rw [hdl]; exact Tryd.size24) ?_)
          | (refine wpList_store_mid rfl 24 _ _ rfl N 0 D.toArray rfl rfl (by simpa [hdl] using t0.out) (by simpa [hdl] using Tryd.size24) (all_one HD1.out) ?_)
          | fail)
        refine bodyPost_ret (res13 _ _ N true D rfl rfl HB9.out hdl) rfl ⟨by rw [HO.out, HP.out, HD.out], by rw [HN.out]; exact HL9.out⟩
  · have HO : Hid (okd l = false) := okd_short h64
    have HP : Hid (prs l = List.replicate 32 0) := prs_none HO.out
    have q1 : ¬ (l.length : Int) = 64 := by omega
    have t0 : Hid (w1.there N 0 32) := O1.out.there 0 32 (by simp [hzl])
    obtain ⟨hb9, hl9⟩ := HEnd.out w1 L1.out O1.out
    have HB9 : Hid _ := hb9
    have HL9 : Hid _ := hl9
    clear hb9 hl9
    have r0 : Hid (w1.rangeAt (N + 1) 0 Z) := (show World.rangeAt _ _ _ _ by have := T1.out.range0; rwa [show By (vzs l 0) = Z from HZ0.out] at this)
    go_wp2_with (first
      | (refine wpList_load_mid rfl 24 _ rfl (N + 1) 0 rfl Z _ r0.out Tryd.underlying24 rfl (by rw [hzl]; exact Tryd.size24) ?_)
      | (refine wpList_store_mid rfl 24 _ _ rfl N 0 Z.toArray rfl rfl (by simpa [hzl] using t0.out) (by simpa [hzl] using Tryd.size24) (all_one HZ1.out) ?_)
      | fail)
    refine bodyPost_ret (res13 _ _ N false Z rfl rfl HB9.out hzl) rfl ⟨by rw [HO.out, HP.out, ← HZ0.out]; rfl, by rw [HN.out]; exact HL9.out⟩
end Go.Proofs.YtlfgbgcjajbckaaDoor
