/-
  The law's lives: what the call does.
-/
import Derived.Test.YtcicekggeampcaaGreatGE3
namespace Go.Proofs.YtcicekggeampcaaGreat
open Go.RowKit
def cA : ByteArray := ⟨#[97]⟩
def cB : ByteArray := ⟨#[98]⟩
def c1 : ByteArray := ⟨#[49]⟩
def tx0 : Tx := ⟨0, false, [], [], 0⟩
def tx1 : Tx := ⟨0, false, [], [(cA, c1, false)], 1⟩
def tx2 : Tx := ⟨0, false, [], [(cA, c1, false)], 2⟩
def tx3 : Tx := ⟨0, false, [(false, cB, em, [])], [(cA, c1, false)], 3⟩
theorem lv_put : putT tx0 (cA, c1, false) = (0, tx1) := by
  have h : wrE [] (cA, c1, false) = 0 ∧ wrB [] (cA, c1, false) = [(cA, c1, false)] := by decide
  unfold putT
  rw [if_neg (by decide)]
  show (wrE [] (cA, c1, false), ({ snap := 0, st := false, R := [], W := wrB [] (cA, c1, false), ops := 0 + 1 } : Tx)) = _
  rw [h.1, h.2]
  rfl
theorem lv_get1 : getT sp0 tx1 cA = ((c1, 0), tx2) := by
  rw [getT_own (p := (cA, c1, false)) (by decide) (by decide) (by decide)]
  rfl
theorem lv_get2 : getT sp0 tx2 cB = ((em, 8), tx3) := by
  have h : getS sp0 cB tx2.snap = (em, 8) := by
    unfold getS
    rw [if_pos (by rfl), if_neg (by decide)]
  rw [getT_store (by decide) (by decide) (by decide) h]
  have hs : sawP tx2.R cB [] = [(false, cB, em, [])] := rfl
  show ((em, (8 : Int)), if (8 : Int) = 0 then _ else if (8 : Int) = 8 then ({ snap := 0, st := false, R := sawP tx2.R cB [], W := [(cA, c1, false)], ops := 2 + 1 } : Tx) else _) = _
  rw [if_neg (by decide), if_pos rfl, hs]
  rfl
set_option maxHeartbeats 4000000 in
set_option maxRecDepth 100000 in
theorem lives_any (w : World) : Calls Tryz.prog 5 #[] w fun e w' => e = .returned (.bool true) ∧ Below w.heap.size w w' := by
  have CN := hide (ls_new (w := w))
  have hzr := zeroR
  go_enter Tryz.func5, Tryz.ntmps5
  go_wp2_with fail
  refine CN.out.mono ?_
  rintro e w1 ⟨D, rfl, hl⟩
  have HL := hide hl
  have CX := hide (zNew_any w1 1 (by decide) (by decide))
  clear CN hl
  go_wp2_with fail
  refine CX.out.mono ?_
  rintro e w2 ⟨X, rfl, -, hs, hb⟩
  have D2 := hide (Duo.new HL.out hs hb)
  clear CX HL hs hb
  have CB := hide (D2.out.begin (by decide) false)
  rw [show (⟨sp0.last, false, [], [], 0⟩ : Tx) = tx0 from rfl] at CB
  go_wp2_with fail
  refine CB.out.mono ?_
  rintro e w3 ⟨rfl, b, hd, -, -⟩
  have D3 := hide hd
  clear CB hd D2
  have CP := hide (zPut_any D3.out cA c1 (by decide))
  rw [lv_put] at CP
  go_wp2_with fail
  refine CP.out.mono ?_
  rintro e w4 ⟨rfl, b4, hd, -, -, -⟩
  have D4 := hide hd
  clear CP hd D3
  have CG := hide (zGet_any D4.out (by decide) cA (by decide))
  rw [lv_get1] at CG
  go_wp2_with fail
  refine CG.out.mono ?_
  rintro e w5 ⟨rfl, b5, hd, -, -, -⟩
  have D5 := hide hd
  clear CG hd D4
  have CG := hide (zGet_any D5.out (by decide) cB (by decide))
  rw [lv_get2] at CG
  go_wp2_with fail
  refine CG.out.mono ?_
  rintro e w6 ⟨rfl, b6, hd, -, -, -⟩
  have D6 := hide hd
  clear CG hd D5
  have CR := hide (zRec_any D6.out.ss (by intro x hx; simp only [tx3, List.mem_singleton] at hx; rw [hx]; simp))
  go_wp2_with fail
  refine CR.out.mono ?_
  rintro e w7 ⟨⟨r, rfl, -, -, -, h4, h5, h6, h7⟩, hb7⟩
  have D7 := hide (D6.out.kept hb7)
  obtain ⟨x, hx, hxp⟩ : ∃ x, r.rs = [x] ∧ plR x = (false, cB, em, []) := by
    match hh : r.rs with
    | [] => rw [hh] at h5; simp [tx3] at h5
    | [x] => rw [hh] at h5; simp [tx3] at h5; exact ⟨x, rfl, h5⟩
    | x :: y :: l => rw [hh] at h5; simp [tx3] at h5
  have hk : x.k = cB := by have := congrArg (fun z => z.2.1) hxp; exact this
  have hwl : r.ws.length = 1 := by rw [h7]; rfl
  have RR := hide h4.row
  have hrv : rv r = .slice r.ra 1 r.rc := by show Value.slice r.ra r.rs.length r.rc = _; rw [hx]; rfl
  have hwv : wv r = .slice r.wa 1 r.wc := by show Value.slice r.wa r.ws.length r.wc = _; rw [hwl]
  rw [hrv, hx] at RR
  obtain ⟨bb, off, hra, hb1, hxx⟩ := (RR.out.rd).nth (by simp)
  have hrow : w7.rangeAt bb (off + 0 * 4) (XC x) := hxx 0 (by simp)
  have cx := hrow 1 (.string x.k) rfl
  rw [hk] at cx
  obtain ⟨E, HE⟩ : ∃ E, Hid (w7.heap.size = E) := ⟨_, rfl⟩
  obtain ⟨w8, hw8⟩ : ∃ y, y = w7.alloc (.cells (RC r).toArray 41 (0, 0)) := ⟨_, rfl⟩
  obtain ⟨b8, l8⟩ := newB HE hw8
  have HW8 := hide hw8
  have d3 := b8.out.rrs
  have d4 := b8.out.rws
  rw [hrv, hra] at d3
  rw [hwv] at d4
  have cx8 : w8.cell? ⟨bb, off + 0 * 4 + 1, none⟩ = some (.string cB) := by rw [← cx]; exact l8.out.cell hb1
  have L8 : Hid (Below w.heap.size w w8) := (show Below _ _ _ from D7.out.ls.lo.trans (l8.out.mono D7.out.ls.lo.size))
  clear hw8 hxx hrow cx h4 h5 h6 h7 hx hxp hwl hrv hwv hb7 D6 CR
  go_upto_region 8 with (first
    | (refine wpList_store_new rfl 41 _ _ rfl w7 _ (RC r).toArray _ rfl rfl rfl Tryz.size41 rfl (all_one (RC_one r)) ?_; rw [← HW8.out, HE.out])
    | fail)
  have q1 : c1.toList = [49] := by rw [ByteArray.toList_eq]; rfl
  have q2 : cB.toList = [98] := by rw [ByteArray.toList_eq]; rfl
  go_wp2_with fail
  go_ret
  exact ⟨rfl, L8.out⟩
end Go.Proofs.YtcicekggeampcaaGreat
