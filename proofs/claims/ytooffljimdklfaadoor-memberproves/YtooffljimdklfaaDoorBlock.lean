/-
  indentureref03.keys, indentureref03.block: what the calls do.
-/
import Derived.Test.YtooffljimdklfaaDoorEnded
namespace Go.Proofs.YtooffljimdklfaaDoor
open Go.RowKit
set_option maxHeartbeats 1000000 in
set_option maxRecDepth 100000 in
theorem keys_any (w : World) : Calls Tryd.prog 83 #[] w fun e w' => e = .returned (.agg (Ws K).toArray) ∧ Below w.heap.size w w' := by
  obtain ⟨N, HN⟩ : ∃ N, Hid (w.heap.size = N) := ⟨_, rfl⟩
  go_enter Tryd.func83, Tryd.ntmps83
  go_upto_region 1 with fail
  obtain ⟨KK, HK⟩ : ∃ KK, Hid (Ws K = KK) := ⟨_, rfl⟩
  have hkl : KK.length = 64 := by rw [← HK.out]; rfl
  have HK1 : Hid (∀ u ∈ KK, u.oneCell' = true) := (show ∀ u ∈ KK, _ by rw [← HK.out]; exact Ws_one _)
  rw [HN.out]
  go_wp2_with (first
    | (refine wpList_buildK rfl 145 _ rfl (.agg (Ws K).toArray) (by kernel_rfl) ?_; rw [HK.out])
    | (refine wpList_store_new rfl 145 _ _ rfl w _ _ _ rfl rfl HN.out.symm (by simpa [hkl] using Tryd.size145) (by simp [hkl]) (all_one HK1.out) ?_)
    | fail)
  refine bodyPost_ret (results_cell_row rfl _ _ N 145 _ (0, 0) _ rfl (by rw [← HN.out]; exact Blk.new w 145 KK) Tryd.underlying145 rfl (by simpa [hkl] using Tryd.size145)) rfl ⟨by rw [HK.out], ?_⟩
  exact (Below.refl _ _).alloc (Nat.le_refl _) _

theorem eight {l : List W} (h : l.length = 8) : ∃ x0 x1 x2 x3 x4 x5 x6 x7 : W, l = [x0, x1, x2, x3, x4, x5, x6, x7] := by
  match l, h with
  | [a, b, c, d, e, f, g, i], _ => exact ⟨a, b, c, d, e, f, g, i, rfl⟩
theorem rnd_facts (x0 x1 x2 x3 x4 x5 x6 x7 kk pp : W) : ∃ u6 u11 u25 u2 u13 u22 g1 g2 g3 g4 n4 g6 g7 g8 g9 one k1 k2 k3 k4 k5 k6 k7 two na ne : W,
    Hid (∀ w : World, Calls Tryd.prog 82 #[wv x4, .int .u64 6] w fun e w' => e = .returned (wv u6) ∧ w' = w)
    ∧ Hid (∀ w : World, Calls Tryd.prog 82 #[wv x4, .int .u64 11] w fun e w' => e = .returned (wv u11) ∧ w' = w)
    ∧ Hid (∀ w : World, Calls Tryd.prog 82 #[wv x4, .int .u64 25] w fun e w' => e = .returned (wv u25) ∧ w' = w)
    ∧ Hid (∀ w : World, Calls Tryd.prog 82 #[wv x0, .int .u64 2] w fun e w' => e = .returned (wv u2) ∧ w' = w)
    ∧ Hid (∀ w : World, Calls Tryd.prog 82 #[wv x0, .int .u64 13] w fun e w' => e = .returned (wv u13) ∧ w' = w)
    ∧ Hid (∀ w : World, Calls Tryd.prog 82 #[wv x0, .int .u64 22] w fun e w' => e = .returned (wv u22) ∧ w' = w)
    ∧ bits .xor .u32 (u6.toNat : Int) (u11.toNat : Int) = (g1.toNat : Int)
    ∧ bits .xor .u32 (g1.toNat : Int) (u25.toNat : Int) = (g2.toNat : Int)
    ∧ IntKind.u32.wrap ((x7.toNat : Int) + (g2.toNat : Int)) = (g3.toNat : Int)
    ∧ bits .and .u32 (x4.toNat : Int) (x5.toNat : Int) = (g4.toNat : Int)
    ∧ bits .xor .u32 (if IntKind.u32.signed = true then -1 else IntKind.u32.max) (x4.toNat : Int) = (n4.toNat : Int)
    ∧ bits .and .u32 (n4.toNat : Int) (x6.toNat : Int) = (g6.toNat : Int)
    ∧ bits .xor .u32 (g4.toNat : Int) (g6.toNat : Int) = (g7.toNat : Int)
    ∧ IntKind.u32.wrap ((g3.toNat : Int) + (g7.toNat : Int)) = (g8.toNat : Int)
    ∧ IntKind.u32.wrap ((g8.toNat : Int) + (kk.toNat : Int)) = (g9.toNat : Int)
    ∧ IntKind.u32.wrap ((g9.toNat : Int) + (pp.toNat : Int)) = (one.toNat : Int)
    ∧ bits .xor .u32 (u2.toNat : Int) (u13.toNat : Int) = (k1.toNat : Int)
    ∧ bits .xor .u32 (k1.toNat : Int) (u22.toNat : Int) = (k2.toNat : Int)
    ∧ bits .and .u32 (x0.toNat : Int) (x1.toNat : Int) = (k3.toNat : Int)
    ∧ bits .and .u32 (x0.toNat : Int) (x2.toNat : Int) = (k4.toNat : Int)
    ∧ bits .and .u32 (x1.toNat : Int) (x2.toNat : Int) = (k5.toNat : Int)
    ∧ bits .xor .u32 (k3.toNat : Int) (k4.toNat : Int) = (k6.toNat : Int)
    ∧ bits .xor .u32 (k6.toNat : Int) (k5.toNat : Int) = (k7.toNat : Int)
    ∧ IntKind.u32.wrap ((k2.toNat : Int) + (k7.toNat : Int)) = (two.toNat : Int)
    ∧ IntKind.u32.wrap ((one.toNat : Int) + (two.toNat : Int)) = (na.toNat : Int)
    ∧ IntKind.u32.wrap ((x3.toNat : Int) + (one.toNat : Int)) = (ne.toNat : Int)
    ∧ ((one.toNat : Int) + (two.toNat : Int)) % (4294967296 : Int) = (na.toNat : Int)
    ∧ ((x3.toNat : Int) + (one.toNat : Int)) % (4294967296 : Int) = (ne.toNat : Int)
    ∧ Hid (rnd [x0, x1, x2, x3, x4, x5, x6, x7] (kk + pp) = [na, x0, x1, x2, ne, x4, x5, x6]) :=
  ⟨_, _, _, _, _, _, _, _, _, _, _, _, _, _, _, _, _, _, _, _, _, _, _, _, _, _, turn_6 x4, turn_11 x4, turn_25 x4, turn_2 x0, turn_13 x0, turn_22 x0, u32_xor_bv _ _, u32_xor_bv _ _, add_wrap _ _, u32_and_bv _ _, u32_not_bv x4, u32_and_bv _ _, u32_xor_bv _ _, add_wrap _ _, add_wrap _ _, add_wrap _ _, u32_xor_bv _ _, u32_xor_bv _ _, u32_and_bv _ _, u32_and_bv _ _, u32_and_bv _ _, u32_xor_bv _ _, u32_xor_bv _ _, add_wrap _ _, add_wrap _ _, add_wrap _ _, add_bv _ _, add_bv _ _, (show rnd _ _ = _ by
    unfold rnd
    simp only [gW, List.getD_cons_zero, List.getD_cons_succ, S1, S0, ch, mj, BitVec.add_assoc])⟩

set_option maxHeartbeats 4000000 in
set_option maxRecDepth 100000 in
theorem block_any (v : Value) (b : List UInt8) (h : List W) (hb : b.length = 64) (hh : h.length = 8) (w : World) (hr : Rd w v b) :
    Calls Tryd.prog 73 #[.agg (Ws h).toArray, v] w fun e w' => e = .returned (.agg (Ws (blk h b)).toArray) ∧ Below w.heap.size w w' := by
  obtain ⟨a, cap, rfl, h1, h2, h3, h4⟩ := hr
  obtain ⟨c, off, rfl, hlt, hc⟩ := h4 (by omega)
  clear h3 h4
  obtain ⟨N, HN⟩ : ∃ N, Hid (w.heap.size = N) := ⟨_, rfl⟩
  have HC : Hid (∀ wr, Below N w wr → ∀ j, j < 64 → wr.cell? ⟨c, off + j, none⟩ = some (.int .u8 ((gB b j).toNat : Int))) := (show ∀ wr, _ → ∀ j, _ → _ from fun wr hwr j hj => by
    rw [hwr.cell (p := ⟨c, off + j, none⟩) (show c < N from HN.out ▸ hlt), hc j _ (By_get (by omega))]
    simp [gB, List.getD, hb, hj])
  clear hc
  rw [hb] at *
  obtain ⟨D, HD⟩ : ∃ D, Hid (Ws h = D) := ⟨_, rfl⟩
  have hdl : D.length = 8 := by rw [← HD.out, Ws_length, hh]
  have HD1 : Hid (∀ u ∈ D, u.oneCell' = true) := (show ∀ u ∈ D, _ by rw [← HD.out]; exact Ws_one _)
  rw [HD.out]
  go_enter Tryd.func73, Tryd.ntmps73
  go_upto_region 2 with fail
  rw [HN.out]
  change Code.wp _ _ _ _ (((w.alloc (.cells D.toArray 130 (0, 0))).alloc (.cells (Ws (List.replicate 8 0#32)).toArray 130 (0, 0))).alloc (.cells (Ws (pz b 0)).toArray 145 (0, 0)))
  obtain ⟨w1, hw1⟩ : ∃ x, x = ((w.alloc (.cells D.toArray 130 (0, 0))).alloc (.cells (Ws (List.replicate 8 0#32)).toArray 130 (0, 0))).alloc (.cells (Ws (pz b 0)).toArray 145 (0, 0)) := ⟨_, rfl⟩
  rw [← hw1]
  have H1 : Hid (Blk w1 N 130 D) := (show Blk _ _ _ _ by rw [hw1, ← HN.out]; exact ((Blk.new w 130 D).alloc _).alloc _)
  have R1 : Hid (Blk w1 (N + 1) 130 (Ws (List.replicate 8 0#32))) := (show Blk _ _ _ _ by
    have := (Blk.new (w.alloc (.cells D.toArray 130 (0, 0))) 130 (Ws (List.replicate 8 0#32))).alloc (.cells (Ws (pz b 0)).toArray 145 (0, 0))
    rw [show (w.alloc (.cells D.toArray 130 (0, 0))).heap.size = N + 1 by simp [HN.out]] at this
    rw [hw1]; exact this)
  have P1 : Hid (Blk w1 (N + 2) 145 (Ws (pz b 0))) := (show Blk _ _ _ _ by
    have := Blk.new ((w.alloc (.cells D.toArray 130 (0, 0))).alloc (.cells (Ws (List.replicate 8 0#32)).toArray 130 (0, 0))) 145 (Ws (pz b 0))
    rw [show ((w.alloc (.cells D.toArray 130 (0, 0))).alloc (.cells (Ws (List.replicate 8 0#32)).toArray 130 (0, 0))).heap.size = N + 2 by simp [HN.out]] at this
    rw [hw1]; exact this)
  have L1 : Hid (Below N w w1) := (show Below _ _ _ by
    rw [hw1]; exact ((Below.refl _ _).alloc (by rw [HN.out]; omega) _).alloc (by simp [HN.out]) _ |>.alloc (by simp [HN.out]; omega) _)
  clear hw1
  go_wp2
  go_loopg [6] 17 (fun k z wr => Hid (Below N w wr) ∧ ∃ i : Nat, i ≤ 16 ∧ k + i = 17 ∧ z = .int .i64 i ∧ Hid (Blk wr N 130 D) ∧ Hid (Blk wr (N + 1) 130 (Ws (List.replicate 8 0#32))) ∧ Hid (Blk wr (N + 1 + 1) 145 (Ws (pz b i))))
  case atStart => exact ⟨L1, 0, by omega, rfl, rfl, H1, R1, P1⟩
  case round =>
    clear H1 R1 P1 L1
    obtain ⟨HBL, i, hi, hk, rfl, H1, R1, HB1⟩ := hrel
    have HBS : Hid (N ≤ wr.heap.size) := (show N ≤ _ from H1.out.lt |> Nat.le_of_lt)
    by_cases hlt : i < 16
    · have q1 : (i : Int) < 16 := by omega
      have q3 : (i : Int) < 64 := by omega
      have HX : Hid (word b i = bw (gB b (4 * i + 0)) <<< 24 ||| bw (gB b (4 * i + 1)) <<< 16 ||| bw (gB b (4 * i + 2)) <<< 8 ||| bw (gB b (4 * i + 3))) := rfl
      obtain ⟨a0, A0⟩ : ∃ a, Hid (4 * i + 0 = a) := ⟨_, rfl⟩
      have b0 : (a0 : Int) < 64 := by have := A0.out; omega
      have c0 := HC.out wr HBL.out a0 (by omega)
      obtain ⟨a1, A1⟩ : ∃ a, Hid (4 * i + 1 = a) := ⟨_, rfl⟩
      have b1 : (a1 : Int) < 64 := by have := A1.out; omega
      have c1 := HC.out wr HBL.out a1 (by omega)
      obtain ⟨a2, A2⟩ : ∃ a, Hid (4 * i + 2 = a) := ⟨_, rfl⟩
      have b2 : (a2 : Int) < 64 := by have := A2.out; omega
      have c2 := HC.out wr HBL.out a2 (by omega)
      obtain ⟨a3, A3⟩ : ∃ a, Hid (4 * i + 3 = a) := ⟨_, rfl⟩
      have b3 : (a3 : Int) < 64 := by have := A3.out; omega
      have c3 := HC.out wr HBL.out a3 (by omega)
      have w0 : IntKind.i64.wrap (4 * (i : Int)) = (a0 : Int) := (IntWalk.i64_in _ (by omega)).trans (by have := A0.out; omega)
      have w1 : IntKind.i64.wrap ((a0 : Int) + 1) = (a1 : Int) := (IntWalk.i64_in _ (by omega)).trans (by have := A0.out; have := A1.out; omega)
      have w2 : IntKind.i64.wrap ((a0 : Int) + 2) = (a2 : Int) := (IntWalk.i64_in _ (by omega)).trans (by have := A0.out; have := A2.out; omega)
      have w3 : IntKind.i64.wrap ((a0 : Int) + 3) = (a3 : Int) := (IntWalk.i64_in _ (by omega)).trans (by have := A0.out; have := A3.out; omega)
      rw [A0.out, A1.out, A2.out, A3.out] at HX
      generalize gB b a0 = x0 at *
      generalize gB b a1 = x1 at *
      generalize gB b a2 = x2 at *
      generalize gB b a3 = x3 at *
      have e0 := wrap_bw x0
      have e1 := wrap_bw x1
      have e2 := wrap_bw x2
      have e3 := wrap_bw x3
      generalize bw x0 = y0 at *
      generalize bw x1 = y1 at *
      generalize bw x2 = y2 at *
      generalize bw x3 = y3 at *
      have f0 : IntKind.u32.wrap ((y0.toNat : Int) * (16777216 : Int)) = ((y0 <<< 24).toNat : Int) := shl_wrap y0 24
      have f1 : IntKind.u32.wrap ((y1.toNat : Int) * (65536 : Int)) = ((y1 <<< 16).toNat : Int) := shl_wrap y1 16
      have f2 : IntKind.u32.wrap ((y2.toNat : Int) * (256 : Int)) = ((y2 <<< 8).toNat : Int) := shl_wrap y2 8
      generalize y0 <<< 24 = z0 at *
      generalize y1 <<< 16 = z1 at *
      generalize y2 <<< 8 = z2 at *
      have g0 := u32_or_bv z0 z1
      generalize z0 ||| z1 = z3 at *
      have g1 := u32_or_bv z3 z2
      generalize z3 ||| z2 = z4 at *
      have g2 := u32_or_bv z4 y3
      generalize z4 ||| y3 = z5 at *
      have k1 := HB1.out.cell (Ws_get (l := pz b i) (j := i) (by rw [pz_length]; omega; omega))
      have k2 := HB1.out.frozen i
      go_wp2_with fail
      go_still_tail 35, Tryd.mixed
      go_wp2
      go_roundg (gk - 1)
      case measure => omega
      case rel => exact ⟨(But.setCell _ _ _ _).below (by omega) HBS.out |> HBL.out.trans |> Below.drew, i + 1, by omega, by omega, by go_num, H1.out.set_other (by omega) _ _, R1.out.set_other (by omega) _ _, by
        show Blk _ _ _ _
        have e := pz_set b i (by omega)
        rw [if_pos hlt, HX.out] at e
        have := HB1.out.set i (wv z5)
        rw [Ws_set, e] at this
        exact this⟩
    · obtain rfl : i = 16 := by omega
      go_wp2
      go_loopg [7] 49 (fun k z wr => Hid (Below N w wr) ∧ ∃ i : Nat, 16 ≤ i ∧ i ≤ 64 ∧ k + i = 65 ∧ z = .int .i64 i ∧ Hid (Blk wr N 130 D) ∧ Hid (Blk wr (N + 1) 130 (Ws (List.replicate 8 0#32))) ∧ Hid (Blk wr (N + 1 + 1) 145 (Ws (pz b i))))
      case atStart => exact ⟨HBL, 16, by omega, by omega, by omega, rfl, H1, R1, HB1⟩
      case round =>
        clear H1 R1 HB1 HBL HBS
        obtain ⟨HBL, i, hi0, hi, hk, rfl, H1, R1, HB1⟩ := hrel
        have HBS : Hid (N ≤ wr.heap.size) := (show N ≤ _ from H1.out.lt |> Nat.le_of_lt)
        by_cases hlt : i < 64
        · have q1 : (i : Int) < 64 := by omega
          obtain ⟨p15, hp15⟩ : ∃ p, p = i - 15 := ⟨_, rfl⟩
          have w15 : IntKind.i64.wrap ((i : Int) - 15) = (p15 : Int) := (IntWalk.i64_in ((i : Int) - 15) (by omega)).trans (by omega)
          have b15 : (p15 : Int) < 64 := by omega
          have c15 := HB1.out.cell (Ws_get (l := pz b i) (j := p15) (by rw [pz_length]; omega; omega))
          obtain ⟨p2, hp2⟩ : ∃ p, p = i - 2 := ⟨_, rfl⟩
          have w2 : IntKind.i64.wrap ((i : Int) - 2) = (p2 : Int) := (IntWalk.i64_in ((i : Int) - 2) (by omega)).trans (by omega)
          have b2 : (p2 : Int) < 64 := by omega
          have c2 := HB1.out.cell (Ws_get (l := pz b i) (j := p2) (by rw [pz_length]; omega; omega))
          obtain ⟨p16, hp16⟩ : ∃ p, p = i - 16 := ⟨_, rfl⟩
          have w16 : IntKind.i64.wrap ((i : Int) - 16) = (p16 : Int) := (IntWalk.i64_in ((i : Int) - 16) (by omega)).trans (by omega)
          have b16 : (p16 : Int) < 64 := by omega
          have c16 := HB1.out.cell (Ws_get (l := pz b i) (j := p16) (by rw [pz_length]; omega; omega))
          obtain ⟨p7, hp7⟩ : ∃ p, p = i - 7 := ⟨_, rfl⟩
          have w7 : IntKind.i64.wrap ((i : Int) - 7) = (p7 : Int) := (IntWalk.i64_in ((i : Int) - 7) (by omega)).trans (by omega)
          have b7 : (p7 : Int) < 64 := by omega
          have c7 := HB1.out.cell (Ws_get (l := pz b i) (j := p7) (by rw [pz_length]; omega; omega))
          have HX : Hid (nxt (plan b i) i = gW (pz b i) p16 + s0 (gW (pz b i) p15) + gW (pz b i) p7 + s1 (gW (pz b i) p2)) := (show _ = _ by
            rw [pz_get _ _ _ (by omega), pz_get _ _ _ (by omega), pz_get _ _ _ (by omega), pz_get _ _ _ (by omega), nxt, hp16, hp15, hp7, hp2])
          clear hp16 hp15 hp7 hp2
          generalize gW (pz b i) p15 = x at *
          generalize gW (pz b i) p2 = y at *
          generalize gW (pz b i) p16 = z at *
          generalize gW (pz b i) p7 = u at *
          have f1 := u32_xor_bv (rr x 7) (rr x 18)
          have f2 : (x.toNat : Int) / (8 : Int) = ((x >>> 3).toNat : Int) := shr_bv x 3
          have f3 := u32_xor_bv (rr x 7 ^^^ rr x 18) (x >>> 3)
          have f4 := u32_xor_bv (rr y 17) (rr y 19)
          have f5 : (y.toNat : Int) / (1024 : Int) = ((y >>> 10).toNat : Int) := shr_bv y 10
          have f6 := u32_xor_bv (rr y 17 ^^^ rr y 19) (y >>> 10)
          have R7 : Hid _ := turn_7 x
          have R18 : Hid _ := turn_18 x
          have R17 : Hid _ := turn_17 y
          have R19 : Hid _ := turn_19 y
          unfold s0 s1 at HX
          generalize rr x 7 = x7 at *
          generalize rr x 18 = x18 at *
          generalize rr y 17 = y17 at *
          generalize rr y 19 = y19 at *
          generalize x >>> 3 = x3 at *
          generalize y >>> 10 = y10 at *
          generalize x7 ^^^ x18 = xa at *
          generalize xa ^^^ x3 = xb at *
          generalize y17 ^^^ y19 = ya at *
          generalize ya ^^^ y10 = yb at *
          have g1 := add_wrap z xb
          generalize z + xb = t1 at *
          have g2 := add_wrap t1 u
          generalize t1 + u = t2 at *
          have g3 := add_wrap t2 yb
          generalize t2 + yb = t3 at *
          go_wp2_with fail
          go_still Tryd.mixed
          generalize hq : ({ wr with drawn := wr.drawn + 1 } : World) = wq
          have e3 : wq.cell? ⟨N + 1 + 1, p16, none⟩ = some (wv z) := by rw [← hq]; exact c16
          have e4 : wq.cell? ⟨N + 1 + 1, p7, none⟩ = some (wv u) := by rw [← hq]; exact c7
          have B0 : Hid (Blk wq N 130 D) := by rw [← hq]; exact H1.out
          have B9 : Hid (Blk wq (N + 1) 130 (Ws (List.replicate 8 0#32))) := by rw [← hq]; exact R1.out
          have B1 : Hid (Blk wq (N + 1 + 1) 145 (Ws (pz b i))) := by rw [← hq]; exact HB1.out
          have BL : Hid (Below N w wq) := by rw [← hq]; exact HBL.out.drew
          have BS : Hid (N ≤ wq.heap.size) := by rw [← hq]; exact HBS.out
          clear hq c15 c2 c16 c7 H1 R1 HB1 HBL HBS
          have k1 := B1.out.cell (Ws_get (l := pz b i) (j := i) (by rw [pz_length]; omega; omega))
          have k2 := B1.out.frozen i
          go_wp2_with fail
          refine wp_region_still_tail 29 Tryd.mixed (by kernel_rfl) ?_
          simp only [List.take_succ_cons, List.take_zero, List.drop_succ_cons, List.drop_zero]
          repeat still_step
          still_call (R7.out _)
          repeat still_step
          still_call (R18.out _)
          repeat still_step
          still_call (R17.out _)
          repeat still_step
          still_call (R19.out _)
          repeat still_step
          refine wpStill_nil ?_
          go_wp2
          go_roundg (gk - 1)
          case measure => omega
          case rel => exact ⟨(But.setCell _ _ _ _).below (by omega) BS.out |> BL.out.trans |> Below.drew, i + 1, by omega, by omega, by omega, by go_num, B0.out.set_other (by omega) _ _, B9.out.set_other (by omega) _ _, by
            show Blk _ _ _ _
            have e := pz_set b i (by omega)
            rw [if_neg (by omega), HX.out] at e
            have := B1.out.set i (wv t3)
            rw [Ws_set, e] at this
            exact this⟩
        · obtain rfl : i = 64 := by omega
          obtain ⟨p, HP⟩ : ∃ p, Hid (plan b 64 = p) := ⟨_, rfl⟩
          have hpl : p.length = 64 := by rw [← HP.out]; exact plan_length b 64
          have P2 : Hid (Blk wr (N + 1 + 1) 145 (Ws p)) := (show Blk _ _ _ _ by
            have := HB1.out
            rw [pz, HP.out, Nat.sub_self, List.replicate_zero, List.append_nil] at this
            exact this)
          clear HB1
          go_wp2_with fail
          refine (keys_any wr).mono ?_
          rintro e w2 ⟨rfl, hw2⟩
          have H2 : Hid (Blk w2 N 130 D) := H1.out.kept hw2
          have R2 : Hid (Blk w2 (N + 1) 130 (Ws (List.replicate 8 0#32))) := R1.out.kept hw2
          have P3 : Hid (Blk w2 (N + 1 + 1) 145 (Ws p)) := P2.out.kept hw2
          have L2 : Hid (Below N w w2) := HBL.out.trans (hw2.mono HBS.out)
          clear hw2 H1 R1 P2 HBL HBS
          obtain ⟨M, HM⟩ : ∃ M, Hid (w2.heap.size = M) := ⟨_, rfl⟩
          have HNM : Hid (N + 1 + 1 < M) := (show _ by rw [← HM.out]; exact P3.out.lt)
          obtain ⟨KK, HK⟩ : ∃ KK, Hid (Ws K = KK) := ⟨_, rfl⟩
          have hkl : KK.length = 64 := by rw [← HK.out]; rfl
          have HK1 : Hid (∀ u ∈ KK, u.oneCell' = true) := (show ∀ u ∈ KK, _ by rw [← HK.out]; exact Ws_one _)
          rw [HK.out]
          have r3 : Hid ((w2.alloc (.cells KK.toArray 145 (0, 0))).rangeAt N 0 D) := (H2.out.alloc _).range0
          go_wp2_with (first
            | (refine wpList_store_new rfl 145 _ _ rfl w2 _ _ _ rfl rfl rfl (by simpa [hkl] using Tryd.size145) (by simp [hkl]) (all_one HK1.out) ?_)
            | (refine wpList_load_mid rfl 130 _ rfl N 0 rfl D _ r3.out Tryd.underlying130 rfl (by rw [hdl]; exact Tryd.size130) ?_)
            | (refine wpList_store_new rfl 130 _ _ rfl (w2.alloc (.cells KK.toArray 145 (0, 0))) _ _ _ rfl rfl (by simp) (by simpa [hdl] using Tryd.size130) (by simp [hdl]) (all_one HD1.out) ?_)
            | fail)
          rw [HM.out]
          obtain ⟨w3, hw3⟩ : ∃ x, x = (w2.alloc (.cells KK.toArray 145 (0, 0))).alloc (.cells D.toArray 130 (0, 0)) := ⟨_, rfl⟩
          rw [← hw3]
          have H3 : Hid (Blk w3 N 130 D) := (show Blk _ _ _ _ by rw [hw3]; exact (H2.out.alloc _).alloc _)
          have R3 : Hid (Blk w3 (N + 1) 130 (Ws (List.replicate 8 0#32))) := (show Blk _ _ _ _ by rw [hw3]; exact (R2.out.alloc _).alloc _)
          have P4 : Hid (Blk w3 (N + 1 + 1) 145 (Ws p)) := (show Blk _ _ _ _ by rw [hw3]; exact (P3.out.alloc _).alloc _)
          have K3 : Hid (Blk w3 M 145 (Ws K)) := (show Blk _ _ _ _ by rw [hw3, ← HM.out, HK.out]; exact (Blk.new w2 145 KK).alloc _)
          have V3 : Hid (Blk w3 (M + 1) 130 (Ws h)) := (show Blk _ _ _ _ by
            have := Blk.new (w2.alloc (.cells KK.toArray 145 (0, 0))) 130 D
            rw [show (w2.alloc (.cells KK.toArray 145 (0, 0))).heap.size = M + 1 by simp [HM.out]] at this
            rw [hw3, HD.out]; exact this)
          have L3 : Hid (Below N w w3) := (show Below _ _ _ by
            have := HNM.out
            rw [hw3]; exact (L2.out.alloc (by rw [HM.out]; omega) _).alloc (by simp [HM.out]; omega) _)
          clear hw3 H2 R2 P3 L2 r3
          go_wp2
          go_loopg [12] 65 (fun k z wr => Hid (Below N w wr) ∧ ∃ i : Nat, i ≤ 64 ∧ k + i = 65 ∧ z = .int .i64 i ∧ Hid (Blk wr N 130 D) ∧ Hid (Blk wr (N + 1) 130 (Ws (List.replicate 8 0#32))) ∧ Hid (Blk wr (N + 1 + 1) 145 (Ws p)) ∧ Hid (Blk wr M 145 (Ws K)) ∧ Hid (Blk wr (M + 1) 130 (Ws (rnds p h i))))
          case atStart => exact ⟨L3, 0, by omega, by omega, rfl, H3, R3, P4, K3, V3⟩
          case round =>
            clear H3 R3 P4 K3 V3 L3
            obtain ⟨L3, i, hi, hk, rfl, H3, R3, P4, K3, V3⟩ := hrel
            have hvl := rnds_length p h hh i
            by_cases hlt : i < 64
            · have q1 : (i : Int) < 64 := by omega
              have CK : Hid (∀ w' : World, w'.heap = wr.heap → w'.cell? ⟨M, i, none⟩ = some (wv (gW K i))) := (show ∀ w' : World, _ → _ from fun w' e => by
                rw [← K3.out.cell (Ws_get (l := K) (j := i) hlt)]; simp only [World.cell?, e])
              have CP : Hid (∀ w' : World, w'.heap = wr.heap → w'.cell? ⟨N + 1 + 1, i, none⟩ = some (wv (gW p i))) := (show ∀ w' : World, _ → _ from fun w' e => by
                rw [← P4.out.cell (Ws_get (l := p) (j := i) (by omega))]; simp only [World.cell?, e])
              have HR : Hid (rnds p h (i + 1) = rnd (rnds p h i) (gW K i + gW p i)) := rfl
              obtain ⟨l, HLL⟩ : ∃ l, Hid (rnds p h i = l) := ⟨_, rfl⟩
              rw [HLL.out] at HR V3 hvl
              clear HLL
              obtain ⟨kk, HKK⟩ : ∃ x, Hid (gW K i = x) := ⟨_, rfl⟩
              rw [HKK.out] at HR CK
              clear HKK
              obtain ⟨pp, HPP⟩ : ∃ x, Hid (gW p i = x) := ⟨_, rfl⟩
              rw [HPP.out] at HR CP
              clear HPP
              obtain ⟨x0, x1, x2, x3, x4, x5, x6, x7, rfl⟩ := eight hvl
              clear hvl
              have C0 : Hid (∀ w' : World, w'.heap = wr.heap → w'.cell? ⟨M + 1, 0, none⟩ = some (wv x0)) := (show ∀ w' : World, _ → _ from fun w' e => (show w'.cell? _ = wr.cell? _ by simp only [World.cell?, e]).trans (V3.out.cell (j := 0) (v := wv x0) rfl))
              have C1 : Hid (∀ w' : World, w'.heap = wr.heap → w'.cell? ⟨M + 1, 1, none⟩ = some (wv x1)) := (show ∀ w' : World, _ → _ from fun w' e => (show w'.cell? _ = wr.cell? _ by simp only [World.cell?, e]).trans (V3.out.cell (j := 1) (v := wv x1) rfl))
              have C2 : Hid (∀ w' : World, w'.heap = wr.heap → w'.cell? ⟨M + 1, 2, none⟩ = some (wv x2)) := (show ∀ w' : World, _ → _ from fun w' e => (show w'.cell? _ = wr.cell? _ by simp only [World.cell?, e]).trans (V3.out.cell (j := 2) (v := wv x2) rfl))
              have C3 : Hid (∀ w' : World, w'.heap = wr.heap → w'.cell? ⟨M + 1, 3, none⟩ = some (wv x3)) := (show ∀ w' : World, _ → _ from fun w' e => (show w'.cell? _ = wr.cell? _ by simp only [World.cell?, e]).trans (V3.out.cell (j := 3) (v := wv x3) rfl))
              have C4 : Hid (∀ w' : World, w'.heap = wr.heap → w'.cell? ⟨M + 1, 4, none⟩ = some (wv x4)) := (show ∀ w' : World, _ → _ from fun w' e => (show w'.cell? _ = wr.cell? _ by simp only [World.cell?, e]).trans (V3.out.cell (j := 4) (v := wv x4) rfl))
              have C5 : Hid (∀ w' : World, w'.heap = wr.heap → w'.cell? ⟨M + 1, 5, none⟩ = some (wv x5)) := (show ∀ w' : World, _ → _ from fun w' e => (show w'.cell? _ = wr.cell? _ by simp only [World.cell?, e]).trans (V3.out.cell (j := 5) (v := wv x5) rfl))
              have C6 : Hid (∀ w' : World, w'.heap = wr.heap → w'.cell? ⟨M + 1, 6, none⟩ = some (wv x6)) := (show ∀ w' : World, _ → _ from fun w' e => (show w'.cell? _ = wr.cell? _ by simp only [World.cell?, e]).trans (V3.out.cell (j := 6) (v := wv x6) rfl))
              have C7 : Hid (∀ w' : World, w'.heap = wr.heap → w'.cell? ⟨M + 1, 7, none⟩ = some (wv x7)) := (show ∀ w' : World, _ → _ from fun w' e => (show w'.cell? _ = wr.cell? _ by simp only [World.cell?, e]).trans (V3.out.cell (j := 7) (v := wv x7) rfl))
              obtain ⟨u6, u11, u25, u2, u13, u22, g1, g2, g3, g4, n4, g6, g7, g8, g9, one, k1, k2, k3, k4, k5, k6, k7, two, na, ne, T6, T11, T25, T2, T13, T22, f1, f2, f3, f4, f5, f6, f7, f8, f9, f10, m1, m2, m3, m4, m5, m6, m7, m8, s1, s2, s1', s2', HX⟩ := rnd_facts x0 x1 x2 x3 x4 x5 x6 x7 kk pp
              rw [HX.out] at HR
              clear HX
              have c0 := C0.out wr rfl
              have c4 := C4.out wr rfl
              have D6 : Hid (∀ w' n, Calls Tryd.prog 82 #[wv x4, .int .u64 6] (World.drewN w' n) fun e w'' => e = .returned (wv u6) ∧ ∃ n', w'' = w'.drewN n') := (show ∀ w' n, _ from fun w' n => (T6.out _).mono fun _ _ ⟨h1, h2⟩ => ⟨h1, n, h2⟩)
              have D11 : Hid (∀ w' n, Calls Tryd.prog 82 #[wv x4, .int .u64 11] (World.drewN w' n) fun e w'' => e = .returned (wv u11) ∧ ∃ n', w'' = w'.drewN n') := (show ∀ w' n, _ from fun w' n => (T11.out _).mono fun _ _ ⟨h1, h2⟩ => ⟨h1, n, h2⟩)
              have D25 : Hid (∀ w' n, Calls Tryd.prog 82 #[wv x4, .int .u64 25] (World.drewN w' n) fun e w'' => e = .returned (wv u25) ∧ ∃ n', w'' = w'.drewN n') := (show ∀ w' n, _ from fun w' n => (T25.out _).mono fun _ _ ⟨h1, h2⟩ => ⟨h1, n, h2⟩)
              have D2 : Hid (∀ w' n, Calls Tryd.prog 82 #[wv x0, .int .u64 2] (World.drewN w' n) fun e w'' => e = .returned (wv u2) ∧ ∃ n', w'' = w'.drewN n') := (show ∀ w' n, _ from fun w' n => (T2.out _).mono fun _ _ ⟨h1, h2⟩ => ⟨h1, n, h2⟩)
              have D13 : Hid (∀ w' n, Calls Tryd.prog 82 #[wv x0, .int .u64 13] (World.drewN w' n) fun e w'' => e = .returned (wv u13) ∧ ∃ n', w'' = w'.drewN n') := (show ∀ w' n, _ from fun w' n => (T13.out _).mono fun _ _ ⟨h1, h2⟩ => ⟨h1, n, h2⟩)
              have D22 : Hid (∀ w' n, Calls Tryd.prog 82 #[wv x0, .int .u64 22] (World.drewN w' n) fun e w'' => e = .returned (wv u22) ∧ ∃ n', w'' = w'.drewN n') := (show ∀ w' n, _ from fun w' n => (T22.out _).mono fun _ _ ⟨h1, h2⟩ => ⟨h1, n, h2⟩)
              clear T6 T11 T25 T2 T13 T22
              go_wp2_with fail
              refine wp_region_quiet_lit (by kernel_rfl) (by kernel_rfl) ?_
              iterate 6 (go_big_quiet_step (fail))
              refine wpQuiet_nil ?_
              intro v1 hw'
              have Ev1 : Hid (v1.heap = wr.heap) := by obtain ⟨nq, rfl⟩ := hw'; exact rfl
              have Lv1 : Hid (Below N w v1) := by obtain ⟨nq, rfl⟩ := hw'; exact L3.out.trans (below_drewN _ N nq)
              clear hw' c0 c4
              have c7 := C7.out v1 Ev1.out
              have c5 := C5.out v1 Ev1.out
              have c6 := C6.out v1 Ev1.out
              have ck := CK.out v1 Ev1.out
              have cp := CP.out v1 Ev1.out
              go_wp2_with fail
              refine wp_region_quiet_lit (by kernel_rfl) (by kernel_rfl) ?_
              iterate 3 (go_big_quiet_step (fail))
              go_big_quiet_step (exact D6.out _ _)
              iterate 1 (go_big_quiet_step (fail))
              go_big_quiet_step (exact D11.out _ _)
              iterate 2 (go_big_quiet_step (fail))
              go_big_quiet_step (exact D25.out _ _)
              iterate 22 (go_big_quiet_step (fail))
              refine wpQuiet_nil ?_
              intro v2 hw'
              have Ev2 : Hid (v2.heap = wr.heap) := by obtain ⟨nq, rfl⟩ := hw'; exact Ev1.out
              have Lv2 : Hid (Below N w v2) := by obtain ⟨nq, rfl⟩ := hw'; exact Lv1.out.trans (below_drewN _ N nq)
              clear hw' c7 c5 c6 ck cp f1 f2 f3 f4 f5 f6 f7 f8 f9 f10 D6 D11 D25
              have c1 := C1.out v2 Ev2.out
              have c2 := C2.out v2 Ev2.out
              go_wp2_with fail
              refine wp_region_quiet_lit (by kernel_rfl) (by kernel_rfl) ?_
              iterate 1 (go_big_quiet_step (fail))
              go_big_quiet_step (exact D2.out _ _)
              iterate 1 (go_big_quiet_step (fail))
              go_big_quiet_step (exact D13.out _ _)
              iterate 2 (go_big_quiet_step (fail))
              go_big_quiet_step (exact D22.out _ _)
              iterate 18 (go_big_quiet_step (fail))
              refine wpQuiet_nil ?_
              intro v3 hw'
              have Ev3 : Hid (v3.heap = wr.heap) := by obtain ⟨nq, rfl⟩ := hw'; exact Ev2.out
              have Lv3 : Hid (Below N w v3) := by obtain ⟨nq, rfl⟩ := hw'; exact Lv2.out.trans (below_drewN _ N nq)
              clear hw' c1 c2 m1 m2 m3 m4 m5 m6 m7 m8 D2 D13 D22
              have c0 := C0.out v3 Ev3.out
              have c1 := C1.out v3 Ev3.out
              have c2 := C2.out v3 Ev3.out
              have c3 := C3.out v3 Ev3.out
              have c4 := C4.out v3 Ev3.out
              have c5 := C5.out v3 Ev3.out
              have c6 := C6.out v3 Ev3.out
              have H4 : Hid (Blk v3 N 130 D) := (show _ = _ by rw [Ev3.out]; exact H3.out)
              have R4 : Hid (Blk v3 (N + 1) 130 (Ws (List.replicate 8 0#32))) := (show _ = _ by rw [Ev3.out]; exact R3.out)
              have P5 : Hid (Blk v3 (N + 1 + 1) 145 (Ws p)) := (show _ = _ by rw [Ev3.out]; exact P4.out)
              have K4 : Hid (Blk v3 M 145 (Ws K)) := (show _ = _ by rw [Ev3.out]; exact K3.out)
              have V4 : Hid (Blk v3 (M + 1) 130 (Ws [x0, x1, x2, x3, x4, x5, x6, x7])) := (show _ = _ by rw [Ev3.out]; exact V3.out)
              clear H3 R3 P4 K3 V3 L3 Ev1 Lv1 Ev2 Lv2 C0 C1 C2 C3 C4 C5 C6 C7 CK CP
              have t0 : Hid (v3.there (M + 1) 0 8) := V4.out.there 0 8 (by rw [Ws_length]; simp)
              obtain ⟨NL, HNL⟩ : ∃ NL, Hid (Ws [na, x0, x1, x2, ne, x4, x5, x6] = NL) := ⟨_, rfl⟩
              have hnl : NL.length = 8 := by rw [← HNL.out]; rfl
              have HNL1 : Hid (∀ u ∈ NL, u.oneCell' = true) := (show ∀ u ∈ NL, _ by rw [← HNL.out]; exact Ws_one _)
              go_wp2_with (first
                | (refine wpList_buildK rfl 130 _ rfl (.agg (Ws [na, x0, x1, x2, ne, x4, x5, x6]).toArray) (by kernel_rfl) ?_; rw [HNL.out])
                | (refine wpList_store_mid rfl 130 _ _ rfl (M + 1) 0 NL.toArray rfl rfl (by simpa [hnl] using t0.out) (by simpa [hnl] using Tryd.size130) (all_one HNL1.out) ?_)
                | fail)
              go_roundg (gk - 1)
              case measure => omega
              case rel =>
                have hNM := HNM.out
                have bt := But.setCells (M + 1) NL 0 v3
                refine ⟨Lv3.out.trans (bt.below (by omega) (Nat.le_of_lt H4.out.lt)), i + 1, by omega, by omega, by go_num, H4.out.but bt (by omega), R4.out.but bt (by omega), P5.out.but bt (by omega), K4.out.but bt (by omega), ?_⟩
                show Blk _ _ _ _
                have := V4.out.over NL 0 (by simp [hnl, Ws_length])
                rw [over_all _ _ (by simp [hnl, Ws_length])] at this
                rw [HR.out, HNL.out]
                exact this
            · obtain rfl : i = 64 := by omega
              obtain ⟨v, HV⟩ : ∃ v, Hid (rnds p h 64 = v) := ⟨_, rfl⟩
              rw [HV.out] at V3 hvl
              clear P4 K3
              rw [← HD.out] at H3
              go_wp2
              go_loopg [182] 9 (fun k z wr => Hid (Below N w wr) ∧ ∃ i : Nat, i ≤ 8 ∧ k + i = 9 ∧ z = .int .i64 i ∧ Hid (Blk wr N 130 (Ws (az h v i))) ∧ Hid (Blk wr (N + 1) 130 (Ws (List.replicate 8 0#32))) ∧ Hid (Blk wr (M + 1) 130 (Ws v)))
              case atStart => exact ⟨L3, 0, by omega, by omega, rfl, by rw [show az h v 0 = h by simp [az]]; exact H3, R3, V3⟩
              case round =>
                clear H3 R3 V3 L3
                obtain ⟨L3, i, hi, hk, rfl, H3, R3, V3⟩ := hrel
                by_cases hlt : i < 8
                · have q1 : (i : Int) < 8 := by omega
                  have c1 := H3.out.cell (Ws_get (l := az h v i) (j := i) (by rw [az_length h v hh hvl i hi]; exact hlt))
                  have z1 := H3.out.frozen i
                  have c2 := V3.out.cell (Ws_get (l := v) (j := i) (by omega))
                  rw [az_get h v hh hvl i hlt] at c1
                  have HE : Hid ((az h v i).set i (gW h i + gW v i) = az h v (i + 1)) := az_set h v hh hvl i hlt
                  generalize gW h i = x at *
                  generalize gW v i = y at *
                  have f1 := add_wrap x y
                  generalize x + y = z at *
                  go_wp2_with fail
                  refine wp_region_still_tail 8 Tryd.mixed (by kernel_rfl) ?_
                  simp only [List.take_succ_cons, List.take_zero, List.drop_succ_cons, List.drop_zero]
                  repeat still_step
                  refine wpStill_nil ?_
                  go_wp2
                  go_roundg (gk - 1)
                  case measure => omega
                  case rel =>
                    have hNM := HNM.out
                    exact ⟨(L3.out.trans ((But.setCell N _ _ _).below (Nat.le_refl _) (Nat.le_of_lt H3.out.lt))).drew, i + 1, by omega, by omega, by go_num, by
                      show Blk _ _ _ _
                      have := H3.out.set i (wv z)
                      rw [Ws_set, HE.out] at this
                      exact this, R3.out.set_other (by omega) _ _, V3.out.set_other (by omega) _ _⟩
                · obtain rfl : i = 8 := by omega
                  have HF : Hid (az h v 8 = blk h b) := (show _ = _ by
                    unfold az blk
                    rw [HP.out, HV.out, List.drop_of_length_le (by omega), List.append_nil, List.take_of_length_le (by simp; omega)])
                  rw [HF.out] at H3
                  have hbl := blk_length h b hh
                  obtain ⟨F, HFF⟩ : ∃ F, Hid (Ws (blk h b) = F) := ⟨_, rfl⟩
                  have hfl : F.length = 8 := by rw [← HFF.out, Ws_length, hbl]
                  have HF1 : Hid (∀ u ∈ F, u.oneCell' = true) := (show ∀ u ∈ F, _ by rw [← HFF.out]; exact Ws_one _)
                  rw [HFF.out] at H3
                  have r9 : Hid (wr.rangeAt N 0 F) := H3.out.range0
                  have t9 : Hid (wr.there (N + 1) 0 8) := R3.out.there 0 8 (by rw [Ws_length]; simp)
                  have HB9 : Hid (Blk (wr.setCells (N + 1) 0 F) (N + 1) 130 F) := (show Blk _ _ _ _ by
                    have := R3.out.over F 0 (by simp [hfl, Ws_length])
                    rw [over_all _ _ (by simp [hfl, Ws_length])] at this
                    exact this)
                  have HL9 : Hid (Below N w (wr.setCells (N + 1) 0 F)) := L3.out.trans ((But.setCells (N + 1) F 0 wr).below (by omega) (Nat.le_of_lt H3.out.lt))
                  go_wp2_with (first
                    | (refine wpList_load_mid rfl 130 _ rfl N 0 rfl F _ r9.out Tryd.underlying130 rfl (by rw [hfl]; exact Tryd.size130) ?_)
                    | (refine wpList_store_mid rfl 130 _ _ rfl (N + 1) 0 F.toArray rfl rfl (by simpa [hfl] using t9.out) (by simpa [hfl] using Tryd.size130) (all_one HF1.out) ?_)
                    | fail)
                  refine bodyPost_ret (results_cell_row rfl _ _ (N + 1) 130 _ (0, 0) _ rfl HB9.out Tryd.underlying130 rfl (by simpa [hfl] using Tryd.size130)) rfl ⟨by rw [HFF.out], ?_⟩
                  rw [HN.out]
                  exact HL9.out
end Go.Proofs.YtooffljimdklfaaDoor
