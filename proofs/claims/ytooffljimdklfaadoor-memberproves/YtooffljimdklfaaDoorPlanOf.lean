/-
  sha.planOf: what the call does.
-/
import Derived.Test.YtooffljimdklfaaDoorCells
import Derived.Deep.LoopGhost
import Derived.BigRegion
import Derived.BigQuiet
import Derived.Deep.QuietTactic
import Derived.StillTailTactics
namespace Go.Proofs.YtooffljimdklfaaDoor
open Go.RowKit
theorem plan_length (b : List UInt8) : ∀ t, (plan b t).length = t
  | 0 => rfl
  | t + 1 => by rw [plan, List.length_append, plan_length b t]; rfl
theorem Tryd.size145 : (Tryd.prog.info? 145).map (·.size) = some 64 := by kernel_rfl
/-- The plan so far, and noughts behind it. -/
def pz (b : List UInt8) (t : Nat) : List W := plan b t ++ List.replicate (64 - t) 0#32
theorem pz_length (b : List UInt8) (t : Nat) (h : t ≤ 64) : (pz b t).length = 64 := by simp [pz, plan_length]; omega
theorem pz_set (b : List UInt8) (t : Nat) (h : t < 64) : (pz b t).set t (if t < 16 then word b t else nxt (plan b t) t) = pz b (t + 1) := by
  unfold pz
  rw [List.set_append_right _ _ (by rw [plan_length]; omega), plan_length, Nat.sub_self]
  obtain ⟨m, hm⟩ : ∃ m, 64 - t = m + 1 := ⟨63 - t, by omega⟩
  rw [hm, List.replicate_succ, List.set_cons_zero, plan, show 64 - (t + 1) = m by omega]
  simp
theorem pz_get (b : List UInt8) (t j : Nat) (h : j < t) : gW (pz b t) j = gW (plan b t) j := by
  unfold gW pz
  simp [List.getD, List.getElem?_append, plan_length, h]
theorem wrap_bw (x : UInt8) : IntKind.u32.wrap (x.toNat : Int) = ((bw x).toNat : Int) := by
  have := x.toNat_lt
  rw [IntKind.wrap_u32', bw, BitVec.toNat_ofNat]
  exact (Int.natCast_emod _ _).symm
theorem add_wrap (a b : W) : IntKind.u32.wrap ((a.toNat : Int) + (b.toNat : Int)) = ((a + b).toNat : Int) := by
  rw [IntKind.wrap_u32']; exact add_bv a b
theorem shl_wrap (a : W) (k : Nat) : IntKind.u32.wrap ((a.toNat : Int) * ((2 ^ k : Nat) : Int)) = ((a <<< k).toNat : Int) := by
  rw [IntKind.wrap_u32']; exact shl_bv a k

set_option maxHeartbeats 1000000 in
set_option maxRecDepth 100000 in
theorem planOf_any (v : Value) (b : List UInt8) (hb : b.length = 64) (w : World) (h : Rd w v b) :
    Calls Tryd.prog 89 #[v] w fun e w' => e = .returned (.agg (Ws (plan b 64)).toArray) ∧ Below w.heap.size w w' := by
  obtain ⟨a, cap, rfl, h1, h2, h3, h4⟩ := h
  obtain ⟨c, off, rfl, hlt, hc⟩ := h4 (by omega)
  clear h3 h4
  obtain ⟨N, hN⟩ : ∃ N, w.heap.size = N := ⟨_, rfl⟩
  have HC : Hid (∀ wr, Below N w wr → ∀ j, j < 64 → wr.cell? ⟨c, off + j, none⟩ = some (.int .u8 ((gB b j).toNat : Int))) := (show _ from fun wr hwr j hj => by
    rw [hwr.cell (p := ⟨c, off + j, none⟩) (show c < N from hN ▸ hlt), hc j _ (By_get (by omega))]
    simp [gB, List.getD, hb, hj])
  clear hc
  rw [hb] at *
  go_enter Tryd.func89, Tryd.ntmps89
  go_wp2
  go_loopg [9] 17 (fun k z wr => Below N w wr ∧ ∃ i : Nat, i ≤ 16 ∧ k + i = 17 ∧ z = .int .i64 i ∧ Hid (Blk wr N 145 (Ws (pz b 0))) ∧ Hid (Blk wr (N + 1) 145 (Ws (pz b i))))
  case atStart =>
    refine ⟨(Below.refl _ _).alloc (by omega) _ |>.alloc (by simp; omega) _, 0, by omega, rfl, rfl, ?_, ?_⟩
    · show Blk _ _ _ _
      rw [← hN]
      exact (Blk.new w 145 (Ws (pz b 0))).alloc _
    · show Blk _ _ _ _
      have := Blk.new (w.alloc (.cells (Ws (pz b 0)).toArray 145 (0, 0))) 145 (Ws (pz b 0))
      rw [show (w.alloc (.cells (Ws (pz b 0)).toArray 145 (0, 0))).heap.size = N + 1 by simp [hN]] at this
      exact this
  case round =>
    obtain ⟨hbl, i, hi, hk, rfl, HB0, HB1⟩ := hrel
    have HBL : Hid (Below N w wr) := hbl
    have HBS : Hid (N ≤ wr.heap.size) := (show N ≤ _ from HB0.out.lt |> Nat.le_of_lt)
    clear hbl
    by_cases hlt : i < 16
    · have q1 : (i : Int) < 16 := by omega
      have q3 : (i : Int) < 64 := by omega
      have q2 : (4 : Int) * i + 4 ≤ cap := by omega
      have c0 := HC.out wr HBL.out (4 * i) (by omega)
      have c1 := HC.out wr HBL.out (4 * i + 1) (by omega)
      rw [← Nat.add_assoc] at c1
      have c2 := HC.out wr HBL.out (4 * i + 2) (by omega)
      rw [← Nat.add_assoc] at c2
      have c3 := HC.out wr HBL.out (4 * i + 3) (by omega)
      rw [← Nat.add_assoc] at c3
      have HX : Hid (word b i = bw (gB b (4 * i)) <<< 24 ||| bw (gB b (4 * i + 1)) <<< 16 ||| bw (gB b (4 * i + 2)) <<< 8 ||| bw (gB b (4 * i + 3))) := rfl
      generalize gB b (4 * i) = x0 at *
      generalize gB b (4 * i + 1) = x1 at *
      generalize gB b (4 * i + 2) = x2 at *
      generalize gB b (4 * i + 3) = x3 at *
      have e0 := wrap_bw x0
      have e1 := wrap_bw x1
      have e2 := wrap_bw x2
      have e3 := wrap_bw x3
      generalize bw x0 = y0 at *
      generalize bw x1 = y1 at *
      generalize bw x2 = y2 at *
      generalize bw x3 = y3 at *
      have f0 : IntKind.u32.wrap ((y0.toNat : Int) * (16777216 : Int)) = ((y0 <<< 24).toNat : Int) := shl_wrap y0 24
      have f1 : IntKind.u32.wrap ((y1.toNat : Int) * (65536 : Int)) = ((y1 <<< 16).toNat : Int) := shl_wrap y1 16
      have f2 : IntKind.u32.wrap ((y2.toNat : Int) * (256 : Int)) = ((y2 <<< 8).toNat : Int) := shl_wrap y2 8
      generalize y0 <<< 24 = z0 at *
      generalize y1 <<< 16 = z1 at *
      generalize y2 <<< 8 = z2 at *
      have g0 := u32_or_bv z0 z1
      generalize z0 ||| z1 = z3 at *
      have g1 := u32_or_bv z3 z2
      generalize z3 ||| z2 = z4 at *
      have g2 := u32_or_bv z4 y3
      generalize z4 ||| y3 = z5 at *
      have k1 := HB1.out.cell (Ws_get (l := pz b i) (j := i) (by rw [pz_length]; omega; omega))
      have k2 := HB1.out.frozen i
      go_wp2
      go_still_tail 24, Tryd.mixed
      go_wp2
      go_roundg (gk - 1)
      case measure => omega
      case rel => exact ⟨(But.setCell _ _ _ _).below (by omega) HBS.out |> HBL.out.trans |> Below.drew, i + 1, by omega, by omega, by go_num, HB0.out.set_other (by omega) _ _, by
        show Blk _ _ _ _
        have e := pz_set b i (by omega)
        rw [if_pos hlt, HX.out] at e
        have := HB1.out.set i (wv z5)
        rw [Ws_set, e] at this
        exact this⟩
    · obtain rfl : i = 16 := by omega
      go_wp2
      go_loopg [6] 49 (fun k z wr => Below N w wr ∧ ∃ i : Nat, 16 ≤ i ∧ i ≤ 64 ∧ k + i = 65 ∧ z = .int .i64 i ∧ Hid (Blk wr N 145 (Ws (pz b 0))) ∧ Hid (Blk wr (N + 1) 145 (Ws (pz b i))))
      case atStart => exact ⟨HBL.out, 16, by omega, by omega, by omega, rfl, HB0, HB1⟩
      case round =>
        clear HB0 HB1 HBL HBS
        obtain ⟨hbl, i, hi0, hi, hk, rfl, HB0, HB1⟩ := hrel
        have HBL : Hid (Below N w wr) := hbl
        have HBS : Hid (N ≤ wr.heap.size) := (show N ≤ _ from HB0.out.lt |> Nat.le_of_lt)
        clear hbl
        by_cases hlt : i < 64
        · have q1 : (i : Int) < 64 := by omega
          have k1 := HB1.out.cell (Ws_get (l := pz b i) (j := i) (by rw [pz_length]; omega; omega))
          have k2 := HB1.out.frozen i
          obtain ⟨p15, hp15⟩ : ∃ p, p = i - 15 := ⟨_, rfl⟩
          have w15 : IntKind.i64.wrap ((i : Int) - 15) = (p15 : Int) := (IntWalk.i64_in ((i : Int) - 15) (by omega)).trans (by omega)
          have b15 : (p15 : Int) < 64 := by omega
          have c15 := HB1.out.cell (Ws_get (l := pz b i) (j := p15) (by rw [pz_length]; omega; omega))
          obtain ⟨p2, hp2⟩ : ∃ p, p = i - 2 := ⟨_, rfl⟩
          have w2 : IntKind.i64.wrap ((i : Int) - 2) = (p2 : Int) := (IntWalk.i64_in ((i : Int) - 2) (by omega)).trans (by omega)
          have b2 : (p2 : Int) < 64 := by omega
          have c2 := HB1.out.cell (Ws_get (l := pz b i) (j := p2) (by rw [pz_length]; omega; omega))
          obtain ⟨p16, hp16⟩ : ∃ p, p = i - 16 := ⟨_, rfl⟩
          have w16 : IntKind.i64.wrap ((i : Int) - 16) = (p16 : Int) := (IntWalk.i64_in ((i : Int) - 16) (by omega)).trans (by omega)
          have b16 : (p16 : Int) < 64 := by omega
          have c16 := HB1.out.cell (Ws_get (l := pz b i) (j := p16) (by rw [pz_length]; omega; omega))
          obtain ⟨p7, hp7⟩ : ∃ p, p = i - 7 := ⟨_, rfl⟩
          have w7 : IntKind.i64.wrap ((i : Int) - 7) = (p7 : Int) := (IntWalk.i64_in ((i : Int) - 7) (by omega)).trans (by omega)
          have b7 : (p7 : Int) < 64 := by omega
          have c7 := HB1.out.cell (Ws_get (l := pz b i) (j := p7) (by rw [pz_length]; omega; omega))
          have HX : Hid (nxt (plan b i) i = gW (pz b i) p16 + s0 (gW (pz b i) p15) + gW (pz b i) p7 + s1 (gW (pz b i) p2)) := (show _ = _ by
            rw [pz_get _ _ _ (by omega), pz_get _ _ _ (by omega), pz_get _ _ _ (by omega), pz_get _ _ _ (by omega), nxt, hp16, hp15, hp7, hp2])
          clear hp16 hp15 hp7 hp2
          generalize gW (pz b i) p15 = x at *
          generalize gW (pz b i) p2 = y at *
          generalize gW (pz b i) p16 = z at *
          generalize gW (pz b i) p7 = u at *
          have f1 := u32_xor_bv (rr x 7) (rr x 18)
          have f2 : (x.toNat : Int) / (8 : Int) = ((x >>> 3).toNat : Int) := shr_bv x 3
          have f3 := u32_xor_bv (rr x 7 ^^^ rr x 18) (x >>> 3)
          have f4 := u32_xor_bv (rr y 17) (rr y 19)
          have f5 : (y.toNat : Int) / (1024 : Int) = ((y >>> 10).toNat : Int) := shr_bv y 10
          have f6 := u32_xor_bv (rr y 17 ^^^ rr y 19) (y >>> 10)
          have r7 := rot_7 x
          have r18 := rot_18 x
          have r17 := rot_17 y
          have r19 := rot_19 y
          unfold s0 s1 at HX
          generalize rr x 7 = x7 at *
          generalize rr x 18 = x18 at *
          generalize rr y 17 = y17 at *
          generalize rr y 19 = y19 at *
          generalize x >>> 3 = x3 at *
          generalize y >>> 10 = y10 at *
          generalize x7 ^^^ x18 = xa at *
          generalize xa ^^^ x3 = xb at *
          generalize y17 ^^^ y19 = ya at *
          generalize ya ^^^ y10 = yb at *
          have R7 : Hid _ := r7
          have R18 : Hid _ := r18
          have R17 : Hid _ := r17
          have R19 : Hid _ := r19
          clear r7 r18 r17 r19
          have g1 : IntKind.u32.wrap ((z.toNat : Int) + (xb.toNat : Int)) = ((z + xb).toNat : Int) := add_wrap z xb
          generalize z + xb = t1 at *
          have g2 : IntKind.u32.wrap ((t1.toNat : Int) + (u.toNat : Int)) = ((t1 + u).toNat : Int) := add_wrap t1 u
          generalize t1 + u = t2 at *
          have g3 : IntKind.u32.wrap ((t2.toNat : Int) + (yb.toNat : Int)) = ((t2 + yb).toNat : Int) := add_wrap t2 yb
          generalize t2 + yb = t3 at *
          go_wp2
          go_still Tryd.mixed
          generalize hq : ({ wr with drawn := wr.drawn + 1 } : World) = wq
          have e1 : wq.cell? ⟨N + 1, i, none⟩ = some (wv (gW (pz b i) i)) := by rw [← hq]; exact k1
          have e2 : wq.frozen? ⟨N + 1, i, none⟩ = false := by rw [← hq]; exact k2
          have e3 : wq.cell? ⟨N + 1, p16, none⟩ = some (wv z) := by rw [← hq]; exact c16
          have e4 : wq.cell? ⟨N + 1, p7, none⟩ = some (wv u) := by rw [← hq]; exact c7
          have B0 : Hid (Blk wq N 145 (Ws (pz b 0))) := by rw [← hq]; exact HB0.out
          have B1 : Hid (Blk wq (N + 1) 145 (Ws (pz b i))) := by rw [← hq]; exact HB1.out
          have BL : Hid (Below N w wq) := by rw [← hq]; exact HBL.out.drew
          have BS : Hid (N ≤ wq.heap.size) := by rw [← hq]; exact HBS.out
          clear hq k1 k2 c15 c2 c16 c7 HB0 HB1 HBL HBS
          go_wp2_with fail
          refine (R7.out _).mono ?_
          rintro e w1 ⟨rfl, hw⟩; subst hw
          go_wp2_with fail
          refine (R18.out _).mono ?_
          rintro e w2 ⟨rfl, hw⟩; subst hw
          go_wp2_with fail
          refine (R17.out _).mono ?_
          rintro e w3 ⟨rfl, hw⟩; subst hw
          go_wp2_with fail
          refine (R19.out _).mono ?_
          rintro e w4 ⟨rfl, hw⟩; subst hw
          go_wp2_with fail
          go_still_tail 15, Tryd.mixed
          go_wp2
          go_roundg (gk - 1)
          case measure => omega
          case rel => exact ⟨(But.setCell _ _ _ _).below (by omega) BS.out |> BL.out.trans |> Below.drew, i + 1, by omega, by omega, by omega, by go_num, B0.out.set_other (by omega) _ _, by
            show Blk _ _ _ _
            have e := pz_set b i (by omega)
            rw [if_neg (by omega), HX.out] at e
            have := B1.out.set i (wv t3)
            rw [Ws_set, e] at this
            exact this⟩
        · obtain rfl : i = 64 := by omega
          have r0 := HB1.out.range0
          have t0 := HB0.out.there 0 64 (by rw [Ws_length, pz_length _ _ (by omega)]; omega)
          go_wp2_with (first
            | (refine wpList_load_mid rfl 145 _ rfl (N + 1) 0 rfl _ _ r0 Tryd.underlying145 rfl (by rw [Ws_length, pz_length _ _ (by omega)]; exact Tryd.size145) ?_)
            | (refine wpList_store_mid rfl 145 _ _ rfl N 0 _ rfl rfl (by simpa [Ws_length, pz_length] using t0) (by simpa [Ws_length, pz_length] using Tryd.size145) (by simpa using Ws_one _) ?_)
            | fail)
          have hl : (pz b 0).length = 64 := pz_length b 0 (by omega)
          have hl2 : (pz b 64).length = 64 := pz_length b 64 (by omega)
          have hB := Blk.over (Ws (pz b 64)) HB0.out 0 (by rw [Ws_length, Ws_length, hl, hl2]; omega)
          rw [over_all _ _ (by rw [Ws_length, Ws_length, hl, hl2])] at hB
          refine bodyPost_ret (results_cell_row rfl _ _ N 145 _ (0, 0) _ rfl hB Tryd.underlying145 rfl (by simpa [Ws_length, pz_length] using Tryd.size145)) rfl ⟨?_, ?_⟩
          · simp [pz]
          · rw [hN]
            exact HBL.out.trans ((But.setCells N _ 0 wr).below (Nat.le_refl _) HBS.out)
end Go.Proofs.YtooffljimdklfaaDoor
