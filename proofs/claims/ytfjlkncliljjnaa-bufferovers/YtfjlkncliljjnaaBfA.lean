/-
  The document's Overlay: what the call does.
-/
import Derived.Test.YtfjlkncliljjnaaBfL
import Derived.Lib.QuietBelow
namespace Go.Proofs.Ytfjlkncliljjnaa
open Go.RowKit
theorem nxt_l {l : List Pr} {i : Nat} (hi : i < l.length) : nxt (l.drop i) [] = some (l[i], l.drop (i + 1), []) := by
  rw [List.drop_eq_getElem_cons hi]
  rfl
theorem nxt_r {r : List Pr} {k : Nat} (hk : k < r.length) : nxt [] (r.drop k) = some (r[k], [], r.drop (k + 1)) := by
  rw [List.drop_eq_getElem_cons hk]
  rfl
theorem nxt_b {l r : List Pr} {i k : Nat} (hi : i < l.length) (hk : k < r.length) : nxt (l.drop i) (r.drop k) = if lt l[i].1 r[k].1 = true then some (l[i], l.drop (i + 1), r.drop k) else if l[i].1 = r[k].1 then some (r[k], l.drop (i + 1), r.drop (k + 1)) else some (r[k], l.drop i, r.drop (k + 1)) := by
  rw [List.drop_eq_getElem_cons hi, List.drop_eq_getElem_cons hk]
  rfl
set_option maxHeartbeats 8000000 in
set_option maxRecDepth 100000 in
theorem rOverlay_any {w : World} {vl vr : Value} {l r : List Pr} (h1 : RdG PE w vl l) (h2 : RdG PE w vr r) (hlr : l.length + r.length ≤ 1000000) :
    Calls Try.prog 24 #[vl, vr] w fun e w' => ∃ v, e = .returned v ∧ OwnG PE w' w.heap.size 38 v (ovl l r) ∧ Below w.heap.size w w' := by
  have hz := Zpair
  obtain ⟨a, c, rfl⟩ := h1.slice
  obtain ⟨a', c', rfl⟩ := h2.slice
  have H1 := hide h1
  have H2 := hide h2
  obtain ⟨n, HN⟩ : ∃ n, Hid (l.length = n) := ⟨_, rfl⟩
  obtain ⟨m, HM⟩ : ∃ n, Hid (r.length = n) := ⟨_, rfl⟩
  rw [HN.out] at H1 hlr ⊢
  rw [HM.out] at H2 hlr ⊢
  obtain ⟨N0, HN0⟩ : ∃ N, Hid (w.heap.size = N) := ⟨_, rfl⟩
  obtain ⟨T, HT⟩ : ∃ T, Hid (ovl l r = T) := ⟨_, rfl⟩
  rw [HT.out, HN0.out]
  clear h1 h2
  go_enter Try.func24, Try.ntmps24
  go_wp2_with fail
  go_loopg [5, 6, 7] (n + m + 1) (fun g z x y wr => ∃ (out : List Pr) (p : Option Addr) (q d i k : Nat), z = .slice p q d ∧ x = .int .i64 (i : Int) ∧ y = .int .i64 (k : Int) ∧ i ≤ n ∧ k ≤ m ∧ g + i + k = n + m + 1 ∧ Hid (OwnG PE wr N0 38 (.slice p q d) out) ∧ Hid (out ++ ovl (l.drop i) (r.drop k) = T) ∧ Hid (Below N0 w wr) ∧ Hid (out.length ≤ i + k))
  case atStart => exact ⟨[], none, 0, 0, 0, 0, rfl, rfl, rfl, Nat.zero_le _, Nat.zero_le _, by omega, ownG_nil _ _ _, (show _ = _ by rw [← HT.out]; simp), Below.refl _ _, (show _ ≤ _ by simp)⟩
  case round =>
    obtain ⟨out, p, q, d, i, k, rfl, rfl, rfl, hi, hk, hg, HO, HTT, HB, HLL⟩ := hrel
    have hsz : N0 ≤ wr.heap.size := by have := HB.out.size; have := HN0.out; omega
    have bw : Below w.heap.size w wr := HB.out.mono (Nat.le_of_eq HN0.out)
    obtain ⟨E, HE⟩ : ∃ E, Hid (wr.heap.size = E) := ⟨_, rfl⟩
    obtain ⟨w3, hw3⟩ : ∃ y, y = wr.alloc (.cells #[.string ⟨#[]⟩, .string ⟨#[]⟩, .bool false] 38 (0, 0)) := ⟨_, rfl⟩
    obtain ⟨B3, hb3⟩ := room_pair HE hw3
    have HB3 := hide B3
    have hNE : N0 ≤ E := by have := HE.out; omega
    have HOE : Hid (∀ b, (Value.slice p q d).ownBlock = some b → ¬ b = E) := (show _ from fun b hb => by have := (HO.out.block hb).2.1; have := HE.out; omega)
    have L3 : Hid (Below N0 w w3) := (show _ from HB.out.trans (hb3.mono hsz))
    have O3 := hide (HO.out.kept hb3)
    have bw3 : Below w.heap.size w w3 := L3.out.mono (Nat.le_of_eq HN0.out)
    have H13 := hide (H1.out.kept bw3)
    have H23 := hide (H2.out.kept bw3)
    have HW3 := hide hw3
    have hE3 : E < w3.heap.size := B3.lt
    clear B3 hb3 hw3 bw bw3
    by_cases hin : i < n
    · by_cases hkm : k < m
      · have hlt_l : i < l.length := by rw [HN.out]; omega
        obtain ⟨bl, ol, rfl, hb_l, hc_l⟩ := H13.out.nth (by omega)
        have rl : w3.rangeAt bl (ol + i * 3) (PC l[i]) := hc_l i hlt_l
        obtain ⟨x, HX⟩ : ∃ x, Hid (l[i] = x) := ⟨l[i], (show l[i] = l[i] from rfl)⟩
        rw [HX.out] at rl
        have R_l := hide rl
        have k_l := cell_regrown (show w3.cell? ⟨bl, ol + i * 3, none⟩ = some (.string x.1) from rl 0 _ rfl)
        clear hc_l rl
        have hlt_r : k < r.length := by rw [HM.out]; omega
        obtain ⟨br, orr, rfl, hb_r, hc_r⟩ := H23.out.nth (by omega)
        have rr : w3.rangeAt br (orr + k * 3) (PC r[k]) := hc_r k hlt_r
        obtain ⟨y, HY⟩ : ∃ x, Hid (r[k] = x) := ⟨r[k], (show r[k] = r[k] from rfl)⟩
        rw [HY.out] at rr
        have R_r := hide rr
        have k_r := cell_regrown (show w3.cell? ⟨br, orr + k * 3, none⟩ = some (.string y.1) from rr 0 _ rfl)
        clear hc_r rr
        have q1 : decide ((i : Int) < (n : Int)) = true := by simp; omega
        have q3 : ((k : Int) == (m : Int)) = false := by simp; omega
        have q1' : (i : Int) < (n : Int) := by omega
        have q2' : (k : Int) < (m : Int) := by omega
        have hnb := nxt_b hlt_l hlt_r
        rw [HX.out, HY.out] at hnb
        have HNB := hide hnb
        clear hnb
        go_upto_region 7 with fail
        rw [← HW3.out, HE.out]
        cases h6 : Op.bytesLess x.1.toList y.1.toList with
        | true =>
          have HNX : Hid (nxt (l.drop i) (r.drop k) = some (x, l.drop (i + 1), r.drop k)) := (show _ = _ by rw [HNB.out, if_pos (show lt x.1 y.1 = true from h6)])
          refine wp_region_quiet_below Try.mixed (by kernel_rfl) ?_
          repeat (go_big_quiet_step (fail))
          refine wpQuiet_nil ?_
          intro w5 hw5
          have D_w5 : Hid (Below w3.heap.size w3 w5) := (show Below _ _ _ by obtain ⟨⟨dq, osq⟩, rfl⟩ := hw5; exact below_regrown w3 dq osq)
          clear hw5 k_l k_r
          have bw5 : Below w3.heap.size w3 w5 := D_w5.out
          have L5 : Hid (Below N0 w w5) := (show _ from L3.out.trans (bw5.mono (by omega)))
          have O5 := hide (O3.out.kept bw5)
          have B5 := hide (HB3.out.kept bw5)
          have R5 : Hid (w5.rangeAt bl (ol + i * 3) (PC x)) := (show _ from fun j u hj => (Below.cell bw5 (p := ⟨bl, ol + i * 3 + j, none⟩) hb_l).trans (R_l.out j u hj))
          have hN5 : Hid (N0 ≤ w5.heap.size) := (show _ ≤ _ by have := bw5.size; omega)
          obtain ⟨dd, HD⟩ : ∃ d, Hid (x.2.2 = d) := ⟨_, rfl⟩
          have HOV := hide (ovl_some HNX.out)
          clear bw5
          cases dd with
          | true =>
            go_wp2_with (first
            | (refine wpList_load_mid rfl 38 _ rfl bl (ol + i * 3) rfl (PC x) _ R5.out Try.underlying38 rfl Try.size38 ?_)
            | (refine wpList_store_blk rfl 38 _ _ rfl E (PC zp) (PC x) 38 rfl rfl B5.out rfl Try.size38 (PC_one _) ?_; intro w6 hb6 hu6; have B6 := hide hb6; have cd := hb6.dead; rw [HD.out] at cd; have C6 := hide (Chg.of_but (F := fun b => b = E) hu6 rfl); have O6 := hide (O5.out.chg C6.out HOE.out); have HL8 : Hid (N0 ≤ (w6.alloc (.cells (PC x).toArray 38 (0, 0))).heap.size) := (show _ ≤ _ from Nat.le_trans hN5.out (Nat.le_trans C6.out.size (by simp))); clear hb6 hu6)
            | fail)
            have L6 : Hid (Below N0 w w6) := (show _ from L5.out.trans (C6.out.below hN5.out (fun k hk h => by omega)))
            go_roundg (n + m + 1 - (i + 1) - (k))
            case measure => omega
            case rel => exact ⟨out, p, q, d, i + 1, k, rfl, by go_num, rfl, by omega, by omega, by omega, O6, (show _ = _ by rw [← HTT.out, HOV.out]; simp [HD.out]), L6, (show _ ≤ _ by have := HLL.out; omega)⟩
          | false =>
            have HL9 : Hid (out.length + [x].length ≤ 10000000) := (show _ ≤ _ by have := HLL.out; rw [List.length_singleton]; omega)
            go_wp2_with (first
            | (refine wpList_load_mid rfl 38 _ rfl bl (ol + i * 3) rfl (PC x) _ R5.out Try.underlying38 rfl Try.size38 ?_)
            | (refine wpList_store_blk rfl 38 _ _ rfl E (PC zp) (PC x) 38 rfl rfl B5.out rfl Try.size38 (PC_one _) ?_; intro w6 hb6 hu6; have B6 := hide hb6; have cd := hb6.dead; rw [HD.out] at cd; have C6 := hide (Chg.of_but (F := fun b => b = E) hu6 rfl); have O6 := hide (O5.out.chg C6.out HOE.out); have HL8 : Hid (N0 ≤ (w6.alloc (.cells (PC x).toArray 38 (0, 0))).heap.size) := (show _ ≤ _ from Nat.le_trans hN5.out (Nat.le_trans C6.out.size (by simp))); clear hb6 hu6)
            | (refine wpList_load_mid rfl 38 _ rfl E 0 rfl (PC x) _ B6.out.range0 Try.underlying38 rfl Try.size38 ?_)
            | (refine wpList_build_row rfl _ rfl x rfl ?_)
            | (refine wpList_append_E Try.underlying28 infoP9 (by decide) rfl (.tmp 84) (.tmp 86) rfl N0 (.slice p q d) out rfl (O6.out.kept ((Below.refl _ _).alloc (Nat.le_refl _) _)) (.slice (some ⟨w6.heap.size, 0, none⟩) 1 1) [x] rfl (rdG_one (E := PE) w6 38 x) HL9.out HL8.out ?_; intro v9 w9 o9 g9 q9; have O9 := hide o9; have G9 := hide g9; clear o9 g9 q9; obtain ⟨p9, c9, hv9⟩ := O9.out.form; obtain ⟨n2, hn2⟩ : ∃ k, (out ++ [x]).length = k := ⟨_, rfl⟩; rw [hn2] at hv9; subst hv9; have HN2 := hide hn2; clear hn2)
            | fail)
            have hG : Chg (fun b => (Value.slice p q d).ownBlock = some b) w6 w9 := (Chg.alloc _ w6 (.cells (PC x).toArray 38 (0, 0))).trans (Chg.of_grown G9.out (fun k e _ => e))
            have hOb : ∀ b, (Value.slice p q d).ownBlock = some b → N0 ≤ b := fun b hb => (O6.out.block hb).1
            have L9 : Hid (Below N0 w w9) := (show _ from (L5.out.trans (C6.out.below hN5.out (fun k hk h => by omega))).trans (hG.below (Nat.le_trans hN5.out C6.out.size) (fun k hk h => by have := hOb _ h; omega)))
            clear hG hOb
            go_roundg (n + m + 1 - (i + 1) - (k))
            case measure => omega
            case rel => exact ⟨out ++ [x], p9, n2, c9, i + 1, k, rfl, by go_num, rfl, by omega, by omega, by omega, O9, (show _ = _ by rw [← HTT.out, HOV.out]; simp [HD.out]), L9, (show _ ≤ _ by have := HLL.out; rw [List.length_append, List.length_singleton]; omega)⟩
        | false =>
          refine wp_region_quiet_below Try.mixed (by kernel_rfl) ?_
          repeat (go_big_quiet_step (fail))
          refine wpQuiet_nil ?_
          intro w5 hw5
          have D_w5 : Hid (Below w3.heap.size w3 w5) := (show Below _ _ _ by obtain ⟨⟨dq, osq⟩, rfl⟩ := hw5; exact below_regrown w3 dq osq)
          clear hw5 k_l k_r
          have bw9 := D_w5.out
          have k_l := cell_regrown (show w5.cell? ⟨bl, ol + i * 3, none⟩ = some (.string x.1) from (Below.cell bw9 (p := ⟨bl, ol + i * 3, none⟩) hb_l).trans (R_l.out 0 _ rfl))
          have k_r := cell_regrown (show w5.cell? ⟨br, orr + k * 3, none⟩ = some (.string y.1) from (Below.cell bw9 (p := ⟨br, orr + k * 3, none⟩) hb_r).trans (R_r.out 0 _ rfl))
          clear bw9
          go_upto_region 10 with fail
          cases h7 : x.1.toList == y.1.toList with
          | true =>
            have HNX : Hid (nxt (l.drop i) (r.drop k) = some (y, l.drop (i + 1), r.drop (k + 1))) := (show _ = _ by rw [HNB.out, if_neg (by show ¬ lt x.1 y.1 = true; unfold lt; rw [h6]; simp), if_pos (ba_inj.1 (by simpa using h7))])
            refine wp_region_quiet_below Try.mixed (by kernel_rfl) ?_
            repeat (go_big_quiet_step (fail))
            refine wpQuiet_nil ?_
            intro w7 hw5
            have D_w7 : Hid (Below w5.heap.size w5 w7) := (show Below _ _ _ by obtain ⟨⟨dq, osq⟩, rfl⟩ := hw5; exact below_regrown w5 dq osq)
            clear hw5 k_l k_r
            have D7 : Hid (Below w3.heap.size w3 w7) := (show _ from D_w5.out.trans (D_w7.out.mono D_w5.out.size))
            clear D_w7
            have D_w7 := D7
            have bw5 : Below w3.heap.size w3 w7 := D_w7.out
            have L5 : Hid (Below N0 w w7) := (show _ from L3.out.trans (bw5.mono (by omega)))
            have O5 := hide (O3.out.kept bw5)
            have B5 := hide (HB3.out.kept bw5)
            have R5 : Hid (w7.rangeAt br (orr + k * 3) (PC y)) := (show _ from fun j u hj => (Below.cell bw5 (p := ⟨br, orr + k * 3 + j, none⟩) hb_r).trans (R_r.out j u hj))
            have hN5 : Hid (N0 ≤ w7.heap.size) := (show _ ≤ _ by have := bw5.size; omega)
            obtain ⟨dd, HD⟩ : ∃ d, Hid (y.2.2 = d) := ⟨_, rfl⟩
            have HOV := hide (ovl_some HNX.out)
            clear bw5
            cases dd with
            | true =>
              go_wp2_with (first
              | (refine wpList_load_mid rfl 38 _ rfl br (orr + k * 3) rfl (PC y) _ R5.out Try.underlying38 rfl Try.size38 ?_)
              | (refine wpList_store_blk rfl 38 _ _ rfl E (PC zp) (PC y) 38 rfl rfl B5.out rfl Try.size38 (PC_one _) ?_; intro w6 hb6 hu6; have B6 := hide hb6; have cd := hb6.dead; rw [HD.out] at cd; have C6 := hide (Chg.of_but (F := fun b => b = E) hu6 rfl); have O6 := hide (O5.out.chg C6.out HOE.out); have HL8 : Hid (N0 ≤ (w6.alloc (.cells (PC y).toArray 38 (0, 0))).heap.size) := (show _ ≤ _ from Nat.le_trans hN5.out (Nat.le_trans C6.out.size (by simp))); clear hb6 hu6)
              | fail)
              have L6 : Hid (Below N0 w w6) := (show _ from L5.out.trans (C6.out.below hN5.out (fun k hk h => by omega)))
              go_roundg (n + m + 1 - (i + 1) - (k + 1))
              case measure => omega
              case rel => exact ⟨out, p, q, d, i + 1, k + 1, rfl, by go_num, by go_num, by omega, by omega, by omega, O6, (show _ = _ by rw [← HTT.out, HOV.out]; simp [HD.out]), L6, (show _ ≤ _ by have := HLL.out; omega)⟩
            | false =>
              have HL9 : Hid (out.length + [y].length ≤ 10000000) := (show _ ≤ _ by have := HLL.out; rw [List.length_singleton]; omega)
              go_wp2_with (first
              | (refine wpList_load_mid rfl 38 _ rfl br (orr + k * 3) rfl (PC y) _ R5.out Try.underlying38 rfl Try.size38 ?_)
              | (refine wpList_store_blk rfl 38 _ _ rfl E (PC zp) (PC y) 38 rfl rfl B5.out rfl Try.size38 (PC_one _) ?_; intro w6 hb6 hu6; have B6 := hide hb6; have cd := hb6.dead; rw [HD.out] at cd; have C6 := hide (Chg.of_but (F := fun b => b = E) hu6 rfl); have O6 := hide (O5.out.chg C6.out HOE.out); have HL8 : Hid (N0 ≤ (w6.alloc (.cells (PC y).toArray 38 (0, 0))).heap.size) := (show _ ≤ _ from Nat.le_trans hN5.out (Nat.le_trans C6.out.size (by simp))); clear hb6 hu6)
              | (refine wpList_load_mid rfl 38 _ rfl E 0 rfl (PC y) _ B6.out.range0 Try.underlying38 rfl Try.size38 ?_)
              | (refine wpList_build_row rfl _ rfl y rfl ?_)
              | (refine wpList_append_E Try.underlying28 infoP9 (by decide) rfl (.tmp 84) (.tmp 86) rfl N0 (.slice p q d) out rfl (O6.out.kept ((Below.refl _ _).alloc (Nat.le_refl _) _)) (.slice (some ⟨w6.heap.size, 0, none⟩) 1 1) [y] rfl (rdG_one (E := PE) w6 38 y) HL9.out HL8.out ?_; intro v9 w9 o9 g9 q9; have O9 := hide o9; have G9 := hide g9; clear o9 g9 q9; obtain ⟨p9, c9, hv9⟩ := O9.out.form; obtain ⟨n2, hn2⟩ : ∃ k, (out ++ [y]).length = k := ⟨_, rfl⟩; rw [hn2] at hv9; subst hv9; have HN2 := hide hn2; clear hn2)
              | fail)
              have hG : Chg (fun b => (Value.slice p q d).ownBlock = some b) w6 w9 := (Chg.alloc _ w6 (.cells (PC y).toArray 38 (0, 0))).trans (Chg.of_grown G9.out (fun k e _ => e))
              have hOb : ∀ b, (Value.slice p q d).ownBlock = some b → N0 ≤ b := fun b hb => (O6.out.block hb).1
              have L9 : Hid (Below N0 w w9) := (show _ from (L5.out.trans (C6.out.below hN5.out (fun k hk h => by omega))).trans (hG.below (Nat.le_trans hN5.out C6.out.size) (fun k hk h => by have := hOb _ h; omega)))
              clear hG hOb
              go_roundg (n + m + 1 - (i + 1) - (k + 1))
              case measure => omega
              case rel => exact ⟨out ++ [y], p9, n2, c9, i + 1, k + 1, rfl, by go_num, by go_num, by omega, by omega, by omega, O9, (show _ = _ by rw [← HTT.out, HOV.out]; simp [HD.out]), L9, (show _ ≤ _ by have := HLL.out; rw [List.length_append, List.length_singleton]; omega)⟩
          | false =>
            have HNX : Hid (nxt (l.drop i) (r.drop k) = some (y, l.drop i, r.drop (k + 1))) := (show _ = _ by rw [HNB.out, if_neg (by show ¬ lt x.1 y.1 = true; unfold lt; rw [h6]; simp), if_neg (fun e => by rw [e] at h7; simp at h7)])
            refine wp_region_quiet_below Try.mixed (by kernel_rfl) ?_
            repeat (go_big_quiet_step (fail))
            refine wpQuiet_nil ?_
            intro w7 hw5
            have D_w7 : Hid (Below w5.heap.size w5 w7) := (show Below _ _ _ by obtain ⟨⟨dq, osq⟩, rfl⟩ := hw5; exact below_regrown w5 dq osq)
            clear hw5 k_l k_r
            have D7 : Hid (Below w3.heap.size w3 w7) := (show _ from D_w5.out.trans (D_w7.out.mono D_w5.out.size))
            clear D_w7
            have D_w7 := D7
            have bw5 : Below w3.heap.size w3 w7 := D_w7.out
            have L5 : Hid (Below N0 w w7) := (show _ from L3.out.trans (bw5.mono (by omega)))
            have O5 := hide (O3.out.kept bw5)
            have B5 := hide (HB3.out.kept bw5)
            have R5 : Hid (w7.rangeAt br (orr + k * 3) (PC y)) := (show _ from fun j u hj => (Below.cell bw5 (p := ⟨br, orr + k * 3 + j, none⟩) hb_r).trans (R_r.out j u hj))
            have hN5 : Hid (N0 ≤ w7.heap.size) := (show _ ≤ _ by have := bw5.size; omega)
            obtain ⟨dd, HD⟩ : ∃ d, Hid (y.2.2 = d) := ⟨_, rfl⟩
            have HOV := hide (ovl_some HNX.out)
            clear bw5
            cases dd with
            | true =>
              go_wp2_with (first
              | (refine wpList_load_mid rfl 38 _ rfl br (orr + k * 3) rfl (PC y) _ R5.out Try.underlying38 rfl Try.size38 ?_)
              | (refine wpList_store_blk rfl 38 _ _ rfl E (PC zp) (PC y) 38 rfl rfl B5.out rfl Try.size38 (PC_one _) ?_; intro w6 hb6 hu6; have B6 := hide hb6; have cd := hb6.dead; rw [HD.out] at cd; have C6 := hide (Chg.of_but (F := fun b => b = E) hu6 rfl); have O6 := hide (O5.out.chg C6.out HOE.out); have HL8 : Hid (N0 ≤ (w6.alloc (.cells (PC y).toArray 38 (0, 0))).heap.size) := (show _ ≤ _ from Nat.le_trans hN5.out (Nat.le_trans C6.out.size (by simp))); clear hb6 hu6)
              | fail)
              have L6 : Hid (Below N0 w w6) := (show _ from L5.out.trans (C6.out.below hN5.out (fun k hk h => by omega)))
              go_roundg (n + m + 1 - (i) - (k + 1))
              case measure => omega
              case rel => exact ⟨out, p, q, d, i, k + 1, rfl, rfl, by go_num, by omega, by omega, by omega, O6, (show _ = _ by rw [← HTT.out, HOV.out]; simp [HD.out]), L6, (show _ ≤ _ by have := HLL.out; omega)⟩
            | false =>
              have HL9 : Hid (out.length + [y].length ≤ 10000000) := (show _ ≤ _ by have := HLL.out; rw [List.length_singleton]; omega)
              go_wp2_with (first
              | (refine wpList_load_mid rfl 38 _ rfl br (orr + k * 3) rfl (PC y) _ R5.out Try.underlying38 rfl Try.size38 ?_)
              | (refine wpList_store_blk rfl 38 _ _ rfl E (PC zp) (PC y) 38 rfl rfl B5.out rfl Try.size38 (PC_one _) ?_; intro w6 hb6 hu6; have B6 := hide hb6; have cd := hb6.dead; rw [HD.out] at cd; have C6 := hide (Chg.of_but (F := fun b => b = E) hu6 rfl); have O6 := hide (O5.out.chg C6.out HOE.out); have HL8 : Hid (N0 ≤ (w6.alloc (.cells (PC y).toArray 38 (0, 0))).heap.size) := (show _ ≤ _ from Nat.le_trans hN5.out (Nat.le_trans C6.out.size (by simp))); clear hb6 hu6)
              | (refine wpList_load_mid rfl 38 _ rfl E 0 rfl (PC y) _ B6.out.range0 Try.underlying38 rfl Try.size38 ?_)
              | (refine wpList_build_row rfl _ rfl y rfl ?_)
              | (refine wpList_append_E Try.underlying28 infoP9 (by decide) rfl (.tmp 84) (.tmp 86) rfl N0 (.slice p q d) out rfl (O6.out.kept ((Below.refl _ _).alloc (Nat.le_refl _) _)) (.slice (some ⟨w6.heap.size, 0, none⟩) 1 1) [y] rfl (rdG_one (E := PE) w6 38 y) HL9.out HL8.out ?_; intro v9 w9 o9 g9 q9; have O9 := hide o9; have G9 := hide g9; clear o9 g9 q9; obtain ⟨p9, c9, hv9⟩ := O9.out.form; obtain ⟨n2, hn2⟩ : ∃ k, (out ++ [y]).length = k := ⟨_, rfl⟩; rw [hn2] at hv9; subst hv9; have HN2 := hide hn2; clear hn2)
              | fail)
              have hG : Chg (fun b => (Value.slice p q d).ownBlock = some b) w6 w9 := (Chg.alloc _ w6 (.cells (PC y).toArray 38 (0, 0))).trans (Chg.of_grown G9.out (fun k e _ => e))
              have hOb : ∀ b, (Value.slice p q d).ownBlock = some b → N0 ≤ b := fun b hb => (O6.out.block hb).1
              have L9 : Hid (Below N0 w w9) := (show _ from (L5.out.trans (C6.out.below hN5.out (fun k hk h => by omega))).trans (hG.below (Nat.le_trans hN5.out C6.out.size) (fun k hk h => by have := hOb _ h; omega)))
              clear hG hOb
              go_roundg (n + m + 1 - (i) - (k + 1))
              case measure => omega
              case rel => exact ⟨out ++ [y], p9, n2, c9, i, k + 1, rfl, rfl, by go_num, by omega, by omega, by omega, O9, (show _ = _ by rw [← HTT.out, HOV.out]; simp [HD.out]), L9, (show _ ≤ _ by have := HLL.out; rw [List.length_append, List.length_singleton]; omega)⟩
      · have hlt_l : i < l.length := by rw [HN.out]; omega
        obtain ⟨bl, ol, rfl, hb_l, hc_l⟩ := H13.out.nth (by omega)
        have rl : w3.rangeAt bl (ol + i * 3) (PC l[i]) := hc_l i hlt_l
        obtain ⟨x, HX⟩ : ∃ x, Hid (l[i] = x) := ⟨l[i], (show l[i] = l[i] from rfl)⟩
        rw [HX.out] at rl
        have R_l := hide rl
        have k_l := cell_regrown (show w3.cell? ⟨bl, ol + i * 3, none⟩ = some (.string x.1) from rl 0 _ rfl)
        clear hc_l rl
        have q1 : decide ((i : Int) < (n : Int)) = true := by simp; omega
        have q3 : ((k : Int) == (m : Int)) = true := by simp; omega
        have q1' : (i : Int) < (n : Int) := by omega
        have HNX : Hid (nxt (l.drop i) (r.drop k) = some (x, l.drop (i + 1), r.drop k)) := (show _ = _ by
          rw [List.drop_eq_nil_of_le (show r.length ≤ k by rw [HM.out]; omega), nxt_l hlt_l, HX.out])
        go_upto_region 7 with fail
        rw [← HW3.out, HE.out]
        refine wp_region_quiet_below Try.mixed (by kernel_rfl) ?_
        repeat (go_big_quiet_step (fail))
        refine wpQuiet_nil ?_
        intro w5 hw5
        have D_w5 : Hid (Below w3.heap.size w3 w5) := (show Below _ _ _ by obtain ⟨⟨dq, osq⟩, rfl⟩ := hw5; exact below_regrown w3 dq osq)
        clear hw5 k_l
        have bw5 : Below w3.heap.size w3 w5 := D_w5.out
        have L5 : Hid (Below N0 w w5) := (show _ from L3.out.trans (bw5.mono (by omega)))
        have O5 := hide (O3.out.kept bw5)
        have B5 := hide (HB3.out.kept bw5)
        have R5 : Hid (w5.rangeAt bl (ol + i * 3) (PC x)) := (show _ from fun j u hj => (Below.cell bw5 (p := ⟨bl, ol + i * 3 + j, none⟩) hb_l).trans (R_l.out j u hj))
        have hN5 : Hid (N0 ≤ w5.heap.size) := (show _ ≤ _ by have := bw5.size; omega)
        obtain ⟨dd, HD⟩ : ∃ d, Hid (x.2.2 = d) := ⟨_, rfl⟩
        have HOV := hide (ovl_some HNX.out)
        clear bw5
        cases dd with
        | true =>
          go_wp2_with (first
          | (refine wpList_load_mid rfl 38 _ rfl bl (ol + i * 3) rfl (PC x) _ R5.out Try.underlying38 rfl Try.size38 ?_)
          | (refine wpList_store_blk rfl 38 _ _ rfl E (PC zp) (PC x) 38 rfl rfl B5.out rfl Try.size38 (PC_one _) ?_; intro w6 hb6 hu6; have B6 := hide hb6; have cd := hb6.dead; rw [HD.out] at cd; have C6 := hide (Chg.of_but (F := fun b => b = E) hu6 rfl); have O6 := hide (O5.out.chg C6.out HOE.out); have HL8 : Hid (N0 ≤ (w6.alloc (.cells (PC x).toArray 38 (0, 0))).heap.size) := (show _ ≤ _ from Nat.le_trans hN5.out (Nat.le_trans C6.out.size (by simp))); clear hb6 hu6)
          | fail)
          have L6 : Hid (Below N0 w w6) := (show _ from L5.out.trans (C6.out.below hN5.out (fun k hk h => by omega)))
          go_roundg (n + m + 1 - (i + 1) - (k))
          case measure => omega
          case rel => exact ⟨out, p, q, d, i + 1, k, rfl, by go_num, rfl, by omega, by omega, by omega, O6, (show _ = _ by rw [← HTT.out, HOV.out]; simp [HD.out]), L6, (show _ ≤ _ by have := HLL.out; omega)⟩
        | false =>
          have HL9 : Hid (out.length + [x].length ≤ 10000000) := (show _ ≤ _ by have := HLL.out; rw [List.length_singleton]; omega)
          go_wp2_with (first
          | (refine wpList_load_mid rfl 38 _ rfl bl (ol + i * 3) rfl (PC x) _ R5.out Try.underlying38 rfl Try.size38 ?_)
          | (refine wpList_store_blk rfl 38 _ _ rfl E (PC zp) (PC x) 38 rfl rfl B5.out rfl Try.size38 (PC_one _) ?_; intro w6 hb6 hu6; have B6 := hide hb6; have cd := hb6.dead; rw [HD.out] at cd; have C6 := hide (Chg.of_but (F := fun b => b = E) hu6 rfl); have O6 := hide (O5.out.chg C6.out HOE.out); have HL8 : Hid (N0 ≤ (w6.alloc (.cells (PC x).toArray 38 (0, 0))).heap.size) := (show _ ≤ _ from Nat.le_trans hN5.out (Nat.le_trans C6.out.size (by simp))); clear hb6 hu6)
          | (refine wpList_load_mid rfl 38 _ rfl E 0 rfl (PC x) _ B6.out.range0 Try.underlying38 rfl Try.size38 ?_)
          | (refine wpList_build_row rfl _ rfl x rfl ?_)
          | (refine wpList_append_E Try.underlying28 infoP9 (by decide) rfl (.tmp 84) (.tmp 86) rfl N0 (.slice p q d) out rfl (O6.out.kept ((Below.refl _ _).alloc (Nat.le_refl _) _)) (.slice (some ⟨w6.heap.size, 0, none⟩) 1 1) [x] rfl (rdG_one (E := PE) w6 38 x) HL9.out HL8.out ?_; intro v9 w9 o9 g9 q9; have O9 := hide o9; have G9 := hide g9; clear o9 g9 q9; obtain ⟨p9, c9, hv9⟩ := O9.out.form; obtain ⟨n2, hn2⟩ : ∃ k, (out ++ [x]).length = k := ⟨_, rfl⟩; rw [hn2] at hv9; subst hv9; have HN2 := hide hn2; clear hn2)
          | fail)
          have hG : Chg (fun b => (Value.slice p q d).ownBlock = some b) w6 w9 := (Chg.alloc _ w6 (.cells (PC x).toArray 38 (0, 0))).trans (Chg.of_grown G9.out (fun k e _ => e))
          have hOb : ∀ b, (Value.slice p q d).ownBlock = some b → N0 ≤ b := fun b hb => (O6.out.block hb).1
          have L9 : Hid (Below N0 w w9) := (show _ from (L5.out.trans (C6.out.below hN5.out (fun k hk h => by omega))).trans (hG.below (Nat.le_trans hN5.out C6.out.size) (fun k hk h => by have := hOb _ h; omega)))
          clear hG hOb
          go_roundg (n + m + 1 - (i + 1) - (k))
          case measure => omega
          case rel => exact ⟨out ++ [x], p9, n2, c9, i + 1, k, rfl, by go_num, rfl, by omega, by omega, by omega, O9, (show _ = _ by rw [← HTT.out, HOV.out]; simp [HD.out]), L9, (show _ ≤ _ by have := HLL.out; rw [List.length_append, List.length_singleton]; omega)⟩
    · by_cases hkm : k < m
      · have hlt_r : k < r.length := by rw [HM.out]; omega
        obtain ⟨br, orr, rfl, hb_r, hc_r⟩ := H23.out.nth (by omega)
        have rr : w3.rangeAt br (orr + k * 3) (PC r[k]) := hc_r k hlt_r
        obtain ⟨y, HY⟩ : ∃ x, Hid (r[k] = x) := ⟨r[k], (show r[k] = r[k] from rfl)⟩
        rw [HY.out] at rr
        have R_r := hide rr
        have k_r := cell_regrown (show w3.cell? ⟨br, orr + k * 3, none⟩ = some (.string y.1) from rr 0 _ rfl)
        clear hc_r rr
        have q1 : decide ((i : Int) < (n : Int)) = false := by simp; omega
        have q2 : decide ((k : Int) < (m : Int)) = true := by simp; omega
        have q3 : ((k : Int) == (m : Int)) = false := by simp; omega
        have q2' : (k : Int) < (m : Int) := by omega
        have HNX : Hid (nxt (l.drop i) (r.drop k) = some (y, l.drop i, r.drop (k + 1))) := (show _ = _ by
          rw [List.drop_eq_nil_of_le (show l.length ≤ i by rw [HN.out]; omega), nxt_r hlt_r, HY.out])
        go_upto_region 7 with fail
        rw [← HW3.out, HE.out]
        refine wp_region_quiet_below Try.mixed (by kernel_rfl) ?_
        repeat (go_big_quiet_step (fail))
        refine wpQuiet_nil ?_
        intro w5 hw5
        have D_w5 : Hid (Below w3.heap.size w3 w5) := (show Below _ _ _ by obtain ⟨⟨dq, osq⟩, rfl⟩ := hw5; exact below_regrown w3 dq osq)
        clear hw5 
        go_upto_region 10 with fail
        refine wp_region_quiet_below Try.mixed (by kernel_rfl) ?_
        repeat (go_big_quiet_step (fail))
        refine wpQuiet_nil ?_
        intro w7 hw5
        have D_w7 : Hid (Below w5.heap.size w5 w7) := (show Below _ _ _ by obtain ⟨⟨dq, osq⟩, rfl⟩ := hw5; exact below_regrown w5 dq osq)
        clear hw5 k_r
        have D7 : Hid (Below w3.heap.size w3 w7) := (show _ from D_w5.out.trans (D_w7.out.mono D_w5.out.size))
        clear D_w7
        have D_w7 := D7
        have bw5 : Below w3.heap.size w3 w7 := D_w7.out
        have L5 : Hid (Below N0 w w7) := (show _ from L3.out.trans (bw5.mono (by omega)))
        have O5 := hide (O3.out.kept bw5)
        have B5 := hide (HB3.out.kept bw5)
        have R5 : Hid (w7.rangeAt br (orr + k * 3) (PC y)) := (show _ from fun j u hj => (Below.cell bw5 (p := ⟨br, orr + k * 3 + j, none⟩) hb_r).trans (R_r.out j u hj))
        have hN5 : Hid (N0 ≤ w7.heap.size) := (show _ ≤ _ by have := bw5.size; omega)
        obtain ⟨dd, HD⟩ : ∃ d, Hid (y.2.2 = d) := ⟨_, rfl⟩
        have HOV := hide (ovl_some HNX.out)
        clear bw5
        cases dd with
        | true =>
          go_wp2_with (first
          | (refine wpList_load_mid rfl 38 _ rfl br (orr + k * 3) rfl (PC y) _ R5.out Try.underlying38 rfl Try.size38 ?_)
          | (refine wpList_store_blk rfl 38 _ _ rfl E (PC zp) (PC y) 38 rfl rfl B5.out rfl Try.size38 (PC_one _) ?_; intro w6 hb6 hu6; have B6 := hide hb6; have cd := hb6.dead; rw [HD.out] at cd; have C6 := hide (Chg.of_but (F := fun b => b = E) hu6 rfl); have O6 := hide (O5.out.chg C6.out HOE.out); have HL8 : Hid (N0 ≤ (w6.alloc (.cells (PC y).toArray 38 (0, 0))).heap.size) := (show _ ≤ _ from Nat.le_trans hN5.out (Nat.le_trans C6.out.size (by simp))); clear hb6 hu6)
          | fail)
          have L6 : Hid (Below N0 w w6) := (show _ from L5.out.trans (C6.out.below hN5.out (fun k hk h => by omega)))
          go_roundg (n + m + 1 - (i) - (k + 1))
          case measure => omega
          case rel => exact ⟨out, p, q, d, i, k + 1, rfl, rfl, by go_num, by omega, by omega, by omega, O6, (show _ = _ by rw [← HTT.out, HOV.out]; simp [HD.out]), L6, (show _ ≤ _ by have := HLL.out; omega)⟩
        | false =>
          have HL9 : Hid (out.length + [y].length ≤ 10000000) := (show _ ≤ _ by have := HLL.out; rw [List.length_singleton]; omega)
          go_wp2_with (first
          | (refine wpList_load_mid rfl 38 _ rfl br (orr + k * 3) rfl (PC y) _ R5.out Try.underlying38 rfl Try.size38 ?_)
          | (refine wpList_store_blk rfl 38 _ _ rfl E (PC zp) (PC y) 38 rfl rfl B5.out rfl Try.size38 (PC_one _) ?_; intro w6 hb6 hu6; have B6 := hide hb6; have cd := hb6.dead; rw [HD.out] at cd; have C6 := hide (Chg.of_but (F := fun b => b = E) hu6 rfl); have O6 := hide (O5.out.chg C6.out HOE.out); have HL8 : Hid (N0 ≤ (w6.alloc (.cells (PC y).toArray 38 (0, 0))).heap.size) := (show _ ≤ _ from Nat.le_trans hN5.out (Nat.le_trans C6.out.size (by simp))); clear hb6 hu6)
          | (refine wpList_load_mid rfl 38 _ rfl E 0 rfl (PC y) _ B6.out.range0 Try.underlying38 rfl Try.size38 ?_)
          | (refine wpList_build_row rfl _ rfl y rfl ?_)
          | (refine wpList_append_E Try.underlying28 infoP9 (by decide) rfl (.tmp 84) (.tmp 86) rfl N0 (.slice p q d) out rfl (O6.out.kept ((Below.refl _ _).alloc (Nat.le_refl _) _)) (.slice (some ⟨w6.heap.size, 0, none⟩) 1 1) [y] rfl (rdG_one (E := PE) w6 38 y) HL9.out HL8.out ?_; intro v9 w9 o9 g9 q9; have O9 := hide o9; have G9 := hide g9; clear o9 g9 q9; obtain ⟨p9, c9, hv9⟩ := O9.out.form; obtain ⟨n2, hn2⟩ : ∃ k, (out ++ [y]).length = k := ⟨_, rfl⟩; rw [hn2] at hv9; subst hv9; have HN2 := hide hn2; clear hn2)
          | fail)
          have hG : Chg (fun b => (Value.slice p q d).ownBlock = some b) w6 w9 := (Chg.alloc _ w6 (.cells (PC y).toArray 38 (0, 0))).trans (Chg.of_grown G9.out (fun k e _ => e))
          have hOb : ∀ b, (Value.slice p q d).ownBlock = some b → N0 ≤ b := fun b hb => (O6.out.block hb).1
          have L9 : Hid (Below N0 w w9) := (show _ from (L5.out.trans (C6.out.below hN5.out (fun k hk h => by omega))).trans (hG.below (Nat.le_trans hN5.out C6.out.size) (fun k hk h => by have := hOb _ h; omega)))
          clear hG hOb
          go_roundg (n + m + 1 - (i) - (k + 1))
          case measure => omega
          case rel => exact ⟨out ++ [y], p9, n2, c9, i, k + 1, rfl, rfl, by go_num, by omega, by omega, by omega, O9, (show _ = _ by rw [← HTT.out, HOV.out]; simp [HD.out]), L9, (show _ ≤ _ by have := HLL.out; rw [List.length_append, List.length_singleton]; omega)⟩
      · have q1 : decide ((i : Int) < (n : Int)) = false := by simp; omega
        have q2 : decide ((k : Int) < (m : Int)) = false := by simp; omega
        have HX : Hid (T = out) := (show _ = _ by
          rw [← HTT.out, ovl_none]
          · simp
          · rw [List.drop_eq_nil_of_le (show l.length ≤ i by rw [HN.out]; omega), List.drop_eq_nil_of_le (show r.length ≤ k by rw [HM.out]; omega)]
            rfl)
        go_wp2_with fail
        go_ret
        refine ⟨_, rfl, ?_, HB.out⟩
        rw [HX.out]
        exact HO.out
#print axioms rOverlay_any
end Go.Proofs.Ytfjlkncliljjnaa
