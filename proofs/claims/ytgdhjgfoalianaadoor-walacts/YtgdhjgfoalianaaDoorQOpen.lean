/-
  The reference's Open: what the call does.
-/
import Derived.Test.YtgdhjgfoalianaaDoorQLog
namespace Go.Proofs.YtgdhjgfoalianaaDoor
open Go.RowKit
open Pd (DM)
theorem nought_next {l : List UInt8} {j : Nat} (hj : j < l.length) : nought (l.take (j + 1)) = (nought (l.take j) && (l[j] == 0)) := by
  unfold nought
  rw [← List.take_append_getElem hj, List.all_append]
  simp only [List.all_cons, List.all_nil, Bool.and_true]
def QOpenedPost (w : World) (c : Nat → Nat) (i D n : Nat) (m : DM) (e : Ending) (w' : World) : Prop :=
  ∃ c', IsR w' c' i D n (openD m).2 ∧ Step c i w c' w' ∧
    (if (openD m).1 = 0 then ∃ L v, e = .returned (.tuple #[.pointer (some ⟨L, 0, none⟩), v, .int .i64 0]) ∧ QLogB w' L D (ends m.now) (texts m.now).length (texts m.now).length ∧ c' L = 9 ∧ w.heap.size ≤ L ∧ CoolR w' c' v (texts m.now)
     else e = .returned (.tuple #[.pointer none, .slice none 0 0, .int .i64 ((openD m).1 : Int)]))

set_option maxRecDepth 100000 in
set_option maxHeartbeats 4000000 in
theorem qOpen_any {w : World} {c : Nat → Nat} {i D n : Nat} {m : DM} (h : IsR w c i D n m) (hc : ∀ k, w.heap.size ≤ k → c k = 0) :
    Calls Tryd.prog 35 #[.pointer (some ⟨D, 0, none⟩)] w (QOpenedPost w c i D n m) := by
  have H := hide h
  have HC := hide hc
  obtain ⟨vn, vs, vd, vk, hA, hO, hnn, h1, h2, h3, h4, h5, hi0⟩ := h
  have HI := hide hi0
  have hnl := hO.now
  obtain ⟨g, cap0, hvn, hcap0⟩ := Own.some hA.now (by omega)
  have c0 := hA.blk.cell (j := 0) rfl
  subst hvn
  obtain ⟨-, hn0, hn⟩ := hnn
  obtain ⟨i0, hi, hz0, hz1, hz2⟩ := info_parts Tryd.info5
  obtain ⟨L0, hL0⟩ : ∃ L, m.now.length = L := ⟨_, rfl⟩
  rw [hL0] at hcap0 c0 hnl
  have HL0 := hide hL0
  have hw0 : (Lit.int .i64 (L0 : Int)).wf = true := wf_nat (by omega)
  have HW0 := hide hw0
  have HNL := hide hnl
  clear hnl hc hi0 hA hO h1 h2 h3 h4 h5 hcap0 hw0 hL0
  go_enter Tryd.func35, Tryd.ntmps35
  go_wp2_with fail
  refine (rReadN_any H.out 0 (L0 : Int) (by decide) HW0.out).mono ?_
  clear c0
  cases ho : m.off with
  | true =>
    have e1 : Pd.read m 0 (L0 : Int) = ([], 7) := by unfold Pd.read; rw [ho]; rfl
    have HE : Hid (openD m = (7, m)) := by unfold openD; rw [ho]; rfl
    rw [e1]
    rintro e w1 ⟨v1, rfl, hr1, -, hb1⟩
    have HB1 := hide hb1
    clear hr1 hb1 ho e1
    go_wp2_with fail
    go_ret3
    refine ⟨c, ?_, Step.keptS HC.out HB1.out, ?_⟩
    · rw [HE.out]; exact H.out.kept HB1.out (fun _ _ => rfl)
    · rw [HE.out, if_neg (by simp)]; rfl
  | false =>
    have e1 : Pd.read m 0 (L0 : Int) = (m.now, 0) := by
      have := HL0.out
      unfold Pd.read
      rw [ho, if_neg (by decide), if_neg (by omega)]
      have e : m.now.take L0 = m.now := List.take_of_length_le (by omega)
      rw [show (L0 : Int).toNat = L0 by omega, show (0 : Int).toNat = 0 from rfl, List.drop_zero, e]
    obtain ⟨b, hbn⟩ : ∃ b, b = m.now := ⟨_, rfl⟩
    have HE : Hid (openD m = wipeF b ((b.length - ends b) / 32) (ends b) false m) := by unfold openD; rw [ho, hbn]; rfl
    have HBN := hide hbn
    rw [e1, ← hbn]
    have hbl : b.length = 32 * n := by rw [hbn, HL0.out]; exact HNL.out
    obtain ⟨hem, hel⟩ := ends_mod b
    rintro e w1 ⟨v1, rfl, hr1, hnew1, hb1⟩
    have HR1 := hide hr1
    have HB1 := hide hb1
    have HN1 := hide hnew1
    clear e1 hbn ho hr1 hb1 hnew1
    obtain ⟨E, hE⟩ : ∃ E, E = ends b := ⟨_, rfl⟩
    rw [← hE] at hem hel
    go_wp2_with fail
    refine (qscan_any v1 b w1 HR1.out (by omega)).mono ?_
    rw [← hE]
    have HEE := hide hE
    clear hE
    rintro e w2 ⟨u2, rfl, ho2, hb2⟩
    have HO2 := hide ho2
    have HB2 : Hid (Below w.heap.size w w2) := HB1.out.trans (hb2.mono HB1.out.size)
    have HR2 : Hid (Rd w2 v1 b) := HR1.out.kept hb2
    have HD2 : Hid (IsR w2 c i D n m) := H.out.kept HB2.out (fun _ _ => rfl)
    have HC2 : Hid (∀ k, w2.heap.size ≤ k → c k = 0) := fun k hk => HC.out k (Nat.le_trans HB2.out.size hk)
    have HV2 : Hid (Cool c v1) := fun x hx => HC.out x (HN1.out x hx)
    have HU : Hid (CoolR w2 c u2 (texts b)) := HO2.out.cool (fun k hk => HC.out k (Nat.le_trans HB1.out.size hk))
    obtain ⟨ua, uc, hu2, -⟩ := HU.out
    subst hu2
    clear ho2 hb2
    have HS2 : Hid (Step c i w c w2) := Step.keptS HC.out HB2.out
    obtain ⟨a, cap, hvv⟩ := HR2.out.slice
    subst hvv
    have hcap := rd_cap HR2.out
    obtain ⟨s0, hs0⟩ : ∃ s0, E = 32 * s0 := ⟨E / 32, by omega⟩
    obtain ⟨k, hk⟩ : ∃ k, n = s0 + k := ⟨n - s0, by omega⟩
    have HE1 : Hid (openD m = wipeF b k (32 * s0) false m) := by
      show openD m = _
      rw [HE.out, ← HEE.out, hs0, hbl, show (32 * n - 32 * s0) / 32 = k by omega]
    have hq1 : (E : Int).tdiv 32 = (s0 : Int) := by rw [Int.tdiv_eq_ediv_of_nonneg (by omega)]; omega
    have hq2 : (E : Int) / 32 = (s0 : Int) := by omega
    have hq3 : (b.length : Int).tdiv 32 = (n : Int) := by rw [Int.tdiv_eq_ediv_of_nonneg (by omega)]; omega
    have hq4 : (b.length : Int) / 32 = (n : Int) := by omega
    have HK := hide hk
    have HS0 := hide hs0
    have hE9 : E ≤ 1000000 := by omega
    have HBL := hide hbl
    have hb9 : b.length ≤ 1000000 := by omega
    have hcap' : b.length ≤ cap := hcap
    have hend : ∀ (cr : Nat → Nat) (mr : DM) (wz : World), IsR wz cr i D n mr → Step c i w cr wz → CoolR wz cr (.slice ua (texts b).length uc) (texts b) → openD m = (0, mr) →
        QOpenedPost w c i D n m (.returned (.tuple #[.pointer (some ⟨wz.heap.size, 0, none⟩), .slice ua (texts b).length uc, .int .i64 0])) (wz.alloc (.cells #[.pointer (some ⟨D, 0, none⟩), .int .i64 (E : Int), .int .i64 ((texts b).length : Int), .int .i64 ((texts b).length : Int)] 47)) := by
      intro cr mr w3 HD3 HS3 HU3 HEQ
      have ba : Below w3.heap.size w3 (w3.alloc (.cells #[.pointer (some ⟨D, 0, none⟩), .int .i64 (E : Int), .int .i64 ((texts b).length : Int), .int .i64 ((texts b).length : Int)] 47)) := (Below.refl _ _).alloc (Nat.le_refl _) _
      have hsz := HS3.size
      have he : ∀ k, k < w3.heap.size → (fun k => if k = w3.heap.size then 9 else cr k) k = cr k := fun k hk => if_neg (by omega)
      refine ⟨fun k => if k = w3.heap.size then 9 else cr k, ?_, ⟨HS3.chg.trans (Chg.of_below ba), fun k hk => (he k (by omega)).trans (HS3.ext k hk), fun k hk => ?_⟩, ?_⟩
      · rw [HEQ]; exact HD3.kept ba he
      · have : w3.heap.size < (w3.alloc (.cells #[.pointer (some ⟨D, 0, none⟩), .int .i64 (E : Int), .int .i64 ((texts b).length : Int), .int .i64 ((texts b).length : Int)] 47)).heap.size := by simp
        show (if k = w3.heap.size then 9 else cr k) = 0
        rw [if_neg (by omega)]
        exact HS3.norm k (by omega)
      · rw [HEQ, if_pos rfl, ← HBN.out]
        refine ⟨w3.heap.size, .slice ua (texts b).length uc, rfl, ?_, if_pos rfl, hsz, HU3.chg (Chg.of_below (F := fun _ => False) ba) (fun _ _ _ => id) he⟩
        rw [← HEE.out]
        exact Blk.new w3 47 [.pointer (some ⟨D, 0, none⟩), .int .i64 (E : Int), .int .i64 ((texts b).length : Int), .int .i64 ((texts b).length : Int)]
    have HEND := hide hend
    clear hend hs0 hk hbl hcap
    go_wp2_with fail
    go_loopg [9, 10] k (fun g x y wr => ∃ (q : Bool) (s : Nat) (cr : Nat → Nat) (mr : DM), x = .bool q ∧ y = .int .i64 (s : Int) ∧ s + g = n ∧ Hid (IsR wr cr i D n mr) ∧ Hid (Step c i w2 cr wr) ∧ Hid (wipeF b g (32 * s) q mr = openD m))
    case atStart => exact ⟨false, s0, c, m, rfl, rfl, HK.out.symm, HD2, Step.keptS HC2.out (Below.refl _ _), HE1.out.symm⟩
    case round =>
      obtain ⟨q, s, cr, mr, rfl, rfl, hp, HD, HS, HW⟩ := hrel
      have HRr : Hid (Rd wr (.slice a b.length cap) b) := HR2.out.chg HS.out.chg (fun x hx e => HI.out ((e.symm.trans (HV2.out x hx)).trans rfl))
      have HUr : Hid (CoolR wr cr (.slice ua (texts b).length uc) (texts b)) := HU.out.step HS.out HI.out
      have HNr := hide HS.out.norm
      cases gk with
      | zero =>
        have q1 : ¬ (s : Int) < (n : Int) := by omega
        clear hp
        cases q with
        | false =>
          go_wp2_with fail
          go_ret3
          exact HEND.out cr mr wr HD.out (HS2.out.thenS HS.out) HUr.out HW.out.symm
        | true =>
          go_wp2_with fail
          refine (rSync_any HD.out HNr.out).mono ?_
          rintro e w3 ⟨rfl, c3, hd3, hs3⟩
          have HW1 : Hid (openD m = Pd.sync mr) := HW.out.symm
          generalize Pd.sync mr = z at HW1 hd3 hs3 ⊢
          obtain ⟨er, m3⟩ := z
          have HD3 : Hid (IsR w3 c3 i D n m3) := hd3
          have HS3 : Hid (Step c i w c3 w3) := (HS2.out.thenS HS.out).thenS hs3
          have HU3 : Hid (CoolR w3 c3 (.slice ua (texts b).length uc) (texts b)) := HUr.out.step hs3 HI.out
          clear hd3 hs3
          by_cases he : er = 0
          · subst he
            go_wp2_with fail
            go_ret3
            exact HEND.out c3 m3 w3 HD3.out HS3.out HU3.out HW1.out
          · have he' : ¬ (er : Int) = 0 := by omega
            go_wp2_with fail
            go_ret3
            refine ⟨c3, ?_, HS3.out, ?_⟩
            · rw [HW1.out]; exact HD3.out
            · rw [HW1.out, if_neg he]; rfl
      | succ g =>
        have q1 : (s : Int) < (n : Int) := by omega
        have hbs : 32 * s + 32 ≤ b.length := by have := HBL.out; omega
        obtain ⟨a2, hsl2, hrd2⟩ := slice_both a b.length cap (32 * s) (32 * s + 32) (by omega) (by omega) hcap'
        have HZ := hide (hrd2 _ _ HRr.out)
        rw [show 32 * s + 32 - 32 * s = 32 by omega] at HZ hsl2
        clear hrd2
        rw [show ((32 * s + 32 : Nat) : Int) = ((s : Int) + 1) * 32 by omega, show ((32 * s : Nat) : Int) = (s : Int) * 32 by omega] at hsl2
        obtain ⟨Z, hZ⟩ : ∃ Z, Z = (b.drop (32 * s)).take 32 := ⟨_, rfl⟩
        rw [← hZ] at HZ
        have hZl : Z.length = 32 := by rw [hZ]; simp; omega
        have HZE := hide hZ
        have HZL := hide hZl
        obtain ⟨az, capz, ez, -, -, -, hcell0⟩ := HZ.out
        obtain ⟨bb, off, haa, -, hcell⟩ := hcell0 (by omega)
        clear hcell0
        simp only [Value.slice.injEq] at ez
        obtain ⟨ez, -, -⟩ := ez
        subst haa
        subst ez
        have HCE := hide hcell
        have hs8 : s ≤ 1000000 := by omega
        have HP := hide hp
        have HBS := hide hbs
        clear hp hcell hZ hZl hbs
        obtain ⟨gk1, HGK⟩ : ∃ g', Hid (g = g') := ⟨_, rfl⟩
        go_wp2_with fail
        go_loopg [11, 51] 32 (fun g x y wr' => ∃ j : Nat, x = .bool (nought (Z.take j)) ∧ y = .int .i64 (j : Int) ∧ g + j = 32 ∧ wr' = wr)
        case atStart => exact ⟨0, rfl, rfl, rfl, rfl⟩
        case round =>
          obtain ⟨j, rfl, rfl, hgj, hw⟩ := hrel
          subst hw
          obtain ⟨f, hf⟩ : ∃ f, nought (Z.take j) = f := ⟨_, rfl⟩
          rw [hf]
          have HFF := hide hf
          clear hf
          cases gk with
          | zero =>
            obtain rfl : j = 32 := by omega
            have HFZ : Hid (nought ((b.drop (32 * s)).take 32) = f) := by rw [← HFF.out, ← HZE.out, List.take_of_length_le (by have := HZL.out; omega)]; rfl
            cases f with
            | true =>
              have HW1 : Hid (wipeF b gk1 (32 * (s + 1)) q mr = openD m) := by
                show wipeF b gk1 (32 * (s + 1)) q mr = _
                rw [← HW.out, HGK.out, show wipeF b (gk1 + 1) (32 * s) q mr = wipeF b gk1 (32 * s + 32) q mr from by rw [wipeF, if_pos HFZ.out]]
                rfl
              go_wp2_with fail
              go_roundg gk1
              case measure => have := HGK.out; omega
              case rel => exact ⟨q, s + 1, cr, mr, rfl, by simp, by have := HP.out; have := HGK.out; omega, HD, HS, HW1⟩
            | false =>
              obtain ⟨T, HT⟩ : ∃ T, Hid (T = 32) := ⟨32, rfl⟩
              have hT : Hid ((32 : Int) = (T : Int)) := (show _ = _ by rw [HT.out]; rfl)
              have hT9 : T ≤ 100 := by have := HT.out; omega
              have HW1 : Hid (wipeF b (gk1 + 1) (32 * s) q mr = if (Pd.write mr ((s : Int) * 32) Zs).1 = 0 then wipeF b gk1 (32 * s + 32) true (Pd.write mr ((s : Int) * 32) Zs).2 else Pd.write mr ((s : Int) * 32) Zs) := by
                show wipeF b (gk1 + 1) (32 * s) q mr = _
                rw [wipeF, if_neg (by rw [HFZ.out]; simp), show ((32 * s : Nat) : Int) = (s : Int) * 32 by omega]
              rw [HGK.out] at HW
              have HRz : Hid (Rd (wr.alloc (.cells (Array.replicate T (Value.int .u8 0)) 5)) (.slice (some ⟨wr.heap.size, 0, none⟩) T T) Zs) := by
                have e : Array.replicate T (Value.int .u8 0) = (By Zs).toArray := by rw [HT.out]; simp only [By, Zs, List.map_replicate]; rfl
                show Rd _ _ _
                rw [e]
                exact rd_blk0 (Blk.new wr 5 (By Zs)) (by rw [HT.out]; simp [Zs])
              have ba : Below wr.heap.size wr (wr.alloc (.cells (Array.replicate T (Value.int .u8 0)) 5)) := (Below.refl _ _).alloc (Nat.le_refl _) _
              have HDa : Hid (IsR (wr.alloc (.cells (Array.replicate T (Value.int .u8 0)) 5)) cr i D n mr) := HD.out.kept ba (fun _ _ => rfl)
              have HNa : Hid (∀ k, (wr.alloc (.cells (Array.replicate T (Value.int .u8 0)) 5)).heap.size ≤ k → cr k = 0) := fun k hk => HNr.out k (Nat.le_trans ba.size hk)
              have HCz : Hid (Cool cr (.slice (some ⟨wr.heap.size, 0, none⟩) T T)) := fun x hx => by rw [InB_at hx]; exact HNr.out _ (Nat.le_refl _)
              have HSa : Hid (Step c i w2 cr (wr.alloc (.cells (Array.replicate T (Value.int .u8 0)) 5))) := HS.out.thenS (Step.keptS HNr.out ba)
              clear ba
              go_wp2_with (first
                | (at_make; refine wpList_make_bytes _ rfl _ _ 33 rfl i0 Tryd.underlying33 hi hz0 hz1 hz2 .i64 .i64 32 32 T T rfl rfl hT.out hT.out (Nat.le_refl _) (by omega) ?_)
                | fail)
              refine (rWrite_any HDa.out HNa.out ((s : Int) * 32) (by rw [show (s : Int) * 32 = ((32 * s : Nat) : Int) by omega]; exact wf_nat (by omega)) _ Zs HRz.out HCz.out (by simp [Zs])).mono ?_
              rintro e w4 ⟨rfl, c4, hd4, hs4⟩
              generalize Pd.write mr ((s : Int) * 32) Zs = z at HW1 hd4 hs4 ⊢
              obtain ⟨er, m4⟩ := z
              have HD4 : Hid (IsR w4 c4 i D n m4) := hd4
              have HS4 : Hid (Step c i w2 c4 w4) := HSa.out.thenS hs4
              clear hd4 hs4
              by_cases he : er = 0
              · subst he
                have HW2 : Hid (wipeF b gk1 (32 * (s + 1)) true m4 = openD m) := by rw [← HW.out, HW1.out]; rfl
                go_wp2_with fail
                go_roundg gk1
                case measure => have := HGK.out; omega
                case rel => exact ⟨true, s + 1, c4, m4, rfl, by simp, by have := HP.out; have := HGK.out; omega, HD4, HS4, HW2⟩
              · have HW2 : Hid (openD m = (er, m4)) := by
                  show openD m = _
                  rw [← HW.out, HW1.out, if_neg he]
                have he' : ¬ (er : Int) = 0 := by omega
                go_wp2_with fail
                go_ret3
                refine ⟨c4, ?_, HS2.out.thenS HS4.out, ?_⟩
                · rw [HW2.out]; exact HD4.out
                · rw [HW2.out, if_neg he]; rfl
          | succ gi =>
            have hj : j < Z.length := by have := HZL.out; omega
            have q5 : (j : Int) < 32 := by omega
            have hcx := HCE.out j _ (By_get hj)
            have hnx := nought_next hj
            rw [HFF.out] at hnx
            have HNX := hide hnx
            have HGJ : Hid (gi + (j + 1) = 32) := (show _ = _ by omega)
            have hj9 : j ≤ 32 := by omega
            clear hnx hgj
            cases f with
            | false =>
              have HN2 : Hid (nought (Z.take (j + 1)) = false) := by rw [HNX.out]; rfl
              generalize Z[j] = z at hcx
              clear hj HNX
              go_wp2_with fail
              go_roundg gi
              case measure => omega
              case rel => exact ⟨j + 1, by rw [HN2.out], by simp, HGJ.out, rfl⟩
            | true =>
              by_cases h0 : Z[j] = 0
              · have HN2 : Hid (nought (Z.take (j + 1)) = true) := by rw [HNX.out, h0]; rfl
                rw [h0] at hcx
                clear hj HNX h0
                go_wp2_with fail
                go_roundg gi
                case measure => omega
                case rel => exact ⟨j + 1, by rw [HN2.out], by simp, HGJ.out, rfl⟩
              · have HN2 : Hid (nought (Z.take (j + 1)) = false) := by
                  show nought (Z.take (j + 1)) = false
                  rw [HNX.out]; simpa using h0
                have h1 : ¬ (Z[j].toNat : Int) = 0 := fun e => h0 (UInt8.toNat_inj.1 (by simpa using e))
                have h2 : ((Z[j].toNat : Int) == 0) = false := by simpa using h1
                generalize Z[j] = z at hcx h1 h2
                clear hj HNX h0
                go_wp2_with fail
                go_roundg gi
                case measure => omega
                case rel => exact ⟨j + 1, by rw [HN2.out], by simp, HGJ.out, rfl⟩
#print axioms qOpen_any
end Go.Proofs.YtgdhjgfoalianaaDoor
