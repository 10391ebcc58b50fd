/-
  Texts that ride together: BfA BfB BfF.
-/
import Derived.Test.YtcicekggeampcaaGreatGBa
import Derived.Lib.QuietBelow
import Derived.Test.YtcicekggeampcaaGreatGRb
import Derived.Test.YtcicekggeampcaaGreatGBd
/-
  The document's Overlay: what the call does.
-/
namespace Go.Proofs.YtcicekggeampcaaGreat
open Go.RowKit
theorem nxt_l {l : List Pr} {i : Nat} (hi : i < l.length) : nxt (l.drop i) [] = some (l[i], l.drop (i + 1), []) := by
  rw [List.drop_eq_getElem_cons hi]
  rfl
theorem nxt_r {r : List Pr} {k : Nat} (hk : k < r.length) : nxt [] (r.drop k) = some (r[k], [], r.drop (k + 1)) := by
  rw [List.drop_eq_getElem_cons hk]
  rfl
theorem nxt_b {l r : List Pr} {i k : Nat} (hi : i < l.length) (hk : k < r.length) : nxt (l.drop i) (r.drop k) = if lt l[i].1 r[k].1 = true then some (l[i], l.drop (i + 1), r.drop k) else if l[i].1 = r[k].1 then some (r[k], l.drop (i + 1), r.drop (k + 1)) else some (r[k], l.drop i, r.drop (k + 1)) := by
  rw [List.drop_eq_getElem_cons hi, List.drop_eq_getElem_cons hk]
  rfl
set_option maxHeartbeats 8000000 in
set_option maxRecDepth 100000 in
theorem rOverlay_any {w : World} {vl vr : Value} {l r : List Pr} (h1 : RdG PE w vl l) (h2 : RdG PE w vr r) (hlr : l.length + r.length ≤ 1000000) :
    Calls Tryz.prog 87 #[vl, vr] w fun e w' => ∃ v, e = .returned v ∧ OwnG PE w' w.heap.size 51 v (ovl l r) ∧ Below w.heap.size w w' := by
  have hz := Zpair
  obtain ⟨a, c, rfl⟩ := h1.slice
  obtain ⟨a', c', rfl⟩ := h2.slice
  have H1 := hide h1
  have H2 := hide h2
  obtain ⟨n, HN⟩ : ∃ n, Hid (l.length = n) := ⟨_, rfl⟩
  obtain ⟨m, HM⟩ : ∃ n, Hid (r.length = n) := ⟨_, rfl⟩
  rw [HN.out] at H1 hlr ⊢
  rw [HM.out] at H2 hlr ⊢
  obtain ⟨N0, HN0⟩ : ∃ N, Hid (w.heap.size = N) := ⟨_, rfl⟩
  obtain ⟨T, HT⟩ : ∃ T, Hid (ovl l r = T) := ⟨_, rfl⟩
  rw [HT.out, HN0.out]
  clear h1 h2
  go_enter Tryz.func87, Tryz.ntmps87
  go_wp2_with fail
  go_loopg [5, 6, 7] (n + m + 1) (fun g z x y wr => ∃ (out : List Pr) (p : Option Addr) (q d i k : Nat), z = .slice p q d ∧ x = .int .i64 (i : Int) ∧ y = .int .i64 (k : Int) ∧ i ≤ n ∧ k ≤ m ∧ g + i + k = n + m + 1 ∧ Hid (OwnG PE wr N0 51 (.slice p q d) out) ∧ Hid (out ++ ovl (l.drop i) (r.drop k) = T) ∧ Hid (Below N0 w wr) ∧ Hid (out.length ≤ i + k))
  case atStart => exact ⟨[], none, 0, 0, 0, 0, rfl, rfl, rfl, Nat.zero_le _, Nat.zero_le _, by omega, ownG_nil _ _ _, (show _ = _ by rw [← HT.out]; simp), Below.refl _ _, (show _ ≤ _ by simp)⟩
  case round =>
    obtain ⟨out, p, q, d, i, k, rfl, rfl, rfl, hi, hk, hg, HO, HTT, HB, HLL⟩ := hrel
    have hsz : N0 ≤ wr.heap.size := by have := HB.out.size; have := HN0.out; omega
    have bw : Below w.heap.size w wr := HB.out.mono (Nat.le_of_eq HN0.out)
    obtain ⟨E, HE⟩ : ∃ E, Hid (wr.heap.size = E) := ⟨_, rfl⟩
    obtain ⟨w3, hw3⟩ : ∃ y, y = wr.alloc (.cells #[.string ⟨#[]⟩, .string ⟨#[]⟩, .bool false] 51 (0, 0)) := ⟨_, rfl⟩
    obtain ⟨B3, hb3⟩ := room_pair HE hw3
    have HB3 := hide B3
    have hNE : N0 ≤ E := by have := HE.out; omega
    have HOE : Hid (∀ b, (Value.slice p q d).ownBlock = some b → ¬ b = E) := (show _ from fun b hb => by have := (HO.out.block hb).2.1; have := HE.out; omega)
    have L3 : Hid (Below N0 w w3) := (show _ from HB.out.trans (hb3.mono hsz))
    have O3 := hide (HO.out.kept hb3)
    have bw3 : Below w.heap.size w w3 := L3.out.mono (Nat.le_of_eq HN0.out)
    have H13 := hide (H1.out.kept bw3)
    have H23 := hide (H2.out.kept bw3)
    have HW3 := hide hw3
    have hE3 : E < w3.heap.size := B3.lt
    clear B3 hb3 hw3 bw bw3
    by_cases hin : i < n
    · by_cases hkm : k < m
      · have hlt_l : i < l.length := by rw [HN.out]; omega
        obtain ⟨bl, ol, rfl, hb_l, hc_l⟩ := H13.out.nth (by omega)
        have rl : w3.rangeAt bl (ol + i * 3) (PC l[i]) := hc_l i hlt_l
        obtain ⟨x, HX⟩ : ∃ x, Hid (l[i] = x) := ⟨l[i], (show l[i] = l[i] from rfl)⟩
        rw [HX.out] at rl
        have R_l := hide rl
        have k_l := cell_regrown (show w3.cell? ⟨bl, ol + i * 3, none⟩ = some (.string x.1) from rl 0 _ rfl)
        clear hc_l rl
        have hlt_r : k < r.length := by rw [HM.out]; omega
        obtain ⟨br, orr, rfl, hb_r, hc_r⟩ := H23.out.nth (by omega)
        have rr : w3.rangeAt br (orr + k * 3) (PC r[k]) := hc_r k hlt_r
        obtain ⟨y, HY⟩ : ∃ x, Hid (r[k] = x) := ⟨r[k], (show r[k] = r[k] from rfl)⟩
        rw [HY.out] at rr
        have R_r := hide rr
        have k_r := cell_regrown (show w3.cell? ⟨br, orr + k * 3, none⟩ = some (.string y.1) from rr 0 _ rfl)
        clear hc_r rr
        have q1 : decide ((i : Int) < (n : Int)) = true := by simp; omega
        have q3 : ((k : Int) == (m : Int)) = false := by simp; omega
        have q1' : (i : Int) < (n : Int) := by omega
        have q2' : (k : Int) < (m : Int) := by omega
        have hnb := nxt_b hlt_l hlt_r
        rw [HX.out, HY.out] at hnb
        have HNB := hide hnb
        clear hnb
        go_upto_region 7 with fail
        rw [← HW3.out, HE.out]
        cases h6 : Op.bytesLess x.1.toList y.1.toList with
        | true =>
          have HNX : Hid (nxt (l.drop i) (r.drop k) = some (x, l.drop (i + 1), r.drop k)) := (show _ = _ by rw [HNB.out, if_pos (show lt x.1 y.1 = true from h6)])
          refine wp_region_quiet_below Tryz.mixed (by kernel_rfl) ?_
          repeat (go_big_quiet_step (fail))
          refine wpQuiet_nil ?_
          intro w5 hw5
          have D_w5 : Hid (Below w3.heap.size w3 w5) := (show Below _ _ _ by obtain ⟨⟨dq, osq⟩, rfl⟩ := hw5; exact below_regrown w3 dq osq)
          clear hw5 k_l k_r
          have bw5 : Below w3.heap.size w3 w5 := D_w5.out
          have L5 : Hid (Below N0 w w5) := (show _ from L3.out.trans (bw5.mono (by omega)))
          have O5 := hide (O3.out.kept bw5)
          have B5 := hide (HB3.out.kept bw5)
          have R5 : Hid (w5.rangeAt bl (ol + i * 3) (PC x)) := (show _ from fun j u hj => (Below.cell bw5 (p := ⟨bl, ol + i * 3 + j, none⟩) hb_l).trans (R_l.out j u hj))
          have hN5 : Hid (N0 ≤ w5.heap.size) := (show _ ≤ _ by have := bw5.size; omega)
          obtain ⟨dd, HD⟩ : ∃ d, Hid (x.2.2 = d) := ⟨_, rfl⟩
          have HOV := hide (ovl_some HNX.out)
          clear bw5
          cases dd with
          | true =>
            go_wp2_with (first
            | (refine wpList_load_mid rfl 51 _ rfl bl (ol + i * 3) rfl (PC x) _ R5.out Tryz.underlying51 rfl Tryz.size51 ?_)
            | (refine wpList_store_blk rfl 51 _ _ rfl E (PC zp) (PC x) 51 rfl rfl B5.out rfl Tryz.size51 (PC_one _) ?_; intro w6 hb6 hu6; have B6 := hide hb6; have cd := hb6.dead; rw [HD.out] at cd; have C6 := hide (Chg.of_but (F := fun b => b = E) hu6 rfl); have O6 := hide (O5.out.chg C6.out HOE.out); have HL8 : Hid (N0 ≤ (w6.alloc (.cells (PC x).toArray 51 (0, 0))).heap.size) := (show _ ≤ _ from Nat.le_trans hN5.out (Nat.le_trans C6.out.size (by simp))); clear hb6 hu6)
            | fail)
            have L6 : Hid (Below N0 w w6) := (show _ from L5.out.trans (C6.out.below hN5.out (fun k hk h => by omega)))
            go_roundg (n + m + 1 - (i + 1) - (k))
            case measure => omega
            case rel => exact ⟨out, p, q, d, i + 1, k, rfl, by go_num, rfl, by omega, by omega, by omega, O6, (show _ = _ by rw [← HTT.out, HOV.out]; simp [HD.out]), L6, (show _ ≤ _ by have := HLL.out; omega)⟩
          | false =>
            have HL9 : Hid (out.length + [x].length ≤ 10000000) := (show _ ≤ _ by have := HLL.out; rw [List.length_singleton]; omega)
            go_wp2_with (first
            | (refine wpList_load_mid rfl 51 _ rfl bl (ol + i * 3) rfl (PC x) _ R5.out Tryz.underlying51 rfl Tryz.size51 ?_)
            | (refine wpList_store_blk rfl 51 _ _ rfl E (PC zp) (PC x) 51 rfl rfl B5.out rfl Tryz.size51 (PC_one _) ?_; intro w6 hb6 hu6; have B6 := hide hb6; have cd := hb6.dead; rw [HD.out] at cd; have C6 := hide (Chg.of_but (F := fun b => b = E) hu6 rfl); have O6 := hide (O5.out.chg C6.out HOE.out); have HL8 : Hid (N0 ≤ (w6.alloc (.cells (PC x).toArray 51 (0, 0))).heap.size) := (show _ ≤ _ from Nat.le_trans hN5.out (Nat.le_trans C6.out.size (by simp))); clear hb6 hu6)
            | (refine wpList_load_mid rfl 51 _ rfl E 0 rfl (PC x) _ B6.out.range0 Tryz.underlying51 rfl Tryz.size51 ?_)
            | (refine wpList_build_row rfl _ rfl x rfl ?_)
            | (refine wpList_append_E Tryz.underlying35 infoP9 (by decide) rfl (.tmp 84) (.tmp 86) rfl N0 (.slice p q d) out rfl (O6.out.kept ((Below.refl _ _).alloc (Nat.le_refl _) _)) (.slice (some ⟨w6.heap.size, 0, none⟩) 1 1) [x] rfl (rdG_one (E := PE) w6 51 x) HL9.out HL8.out ?_; intro v9 w9 o9 g9 q9; have O9 := hide o9; have G9 := hide g9; clear o9 g9 q9; obtain ⟨p9, c9, hv9⟩ := O9.out.form; obtain ⟨n2, hn2⟩ : ∃ k, (out ++ [x]).length = k := ⟨_, rfl⟩; rw [hn2] at hv9; subst hv9; have HN2 := hide hn2; clear hn2)
            | fail)
            have hG : Chg (fun b => (Value.slice p q d).ownBlock = some b) w6 w9 := (Chg.alloc _ w6 (.cells (PC x).toArray 51 (0, 0))).trans (Chg.of_grown G9.out (fun k e _ => e))
            have hOb : ∀ b, (Value.slice p q d).ownBlock = some b → N0 ≤ b := fun b hb => (O6.out.block hb).1
            have L9 : Hid (Below N0 w w9) := (show _ from (L5.out.trans (C6.out.below hN5.out (fun k hk h => by omega))).trans (hG.below (Nat.le_trans hN5.out C6.out.size) (fun k hk h => by have := hOb _ h; omega)))
            clear hG hOb
            go_roundg (n + m + 1 - (i + 1) - (k))
            case measure => omega
            case rel => exact ⟨out ++ [x], p9, n2, c9, i + 1, k, rfl, by go_num, rfl, by omega, by omega, by omega, O9, (show _ = _ by rw [← HTT.out, HOV.out]; simp [HD.out]), L9, (show _ ≤ _ by have := HLL.out; rw [List.length_append, List.length_singleton]; omega)⟩
        | false =>
          refine wp_region_quiet_below Tryz.mixed (by kernel_rfl) ?_
          repeat (go_big_quiet_step (fail))
          refine wpQuiet_nil ?_
          intro w5 hw5
          have D_w5 : Hid (Below w3.heap.size w3 w5) := (show Below _ _ _ by obtain ⟨⟨dq, osq⟩, rfl⟩ := hw5; exact below_regrown w3 dq osq)
          clear hw5 k_l k_r
          have bw9 := D_w5.out
          have k_l := cell_regrown (show w5.cell? ⟨bl, ol + i * 3, none⟩ = some (.string x.1) from (Below.cell bw9 (p := ⟨bl, ol + i * 3, none⟩) hb_l).trans (R_l.out 0 _ rfl))
          have k_r := cell_regrown (show w5.cell? ⟨br, orr + k * 3, none⟩ = some (.string y.1) from (Below.cell bw9 (p := ⟨br, orr + k * 3, none⟩) hb_r).trans (R_r.out 0 _ rfl))
          clear bw9
          go_upto_region 10 with fail
          cases h7 : x.1.toList == y.1.toList with
          | true =>
            have HNX : Hid (nxt (l.drop i) (r.drop k) = some (y, l.drop (i + 1), r.drop (k + 1))) := (show _ = _ by rw [HNB.out, if_neg (by show ¬ lt x.1 y.1 = true; unfold lt; rw [h6]; simp), if_pos (ba_inj.1 (by simpa using h7))])
            refine wp_region_quiet_below Tryz.mixed (by kernel_rfl) ?_
            repeat (go_big_quiet_step (fail))
            refine wpQuiet_nil ?_
            intro w7 hw5
            have D_w7 : Hid (Below w5.heap.size w5 w7) := (show Below _ _ _ by obtain ⟨⟨dq, osq⟩, rfl⟩ := hw5; exact below_regrown w5 dq osq)
            clear hw5 k_l k_r
            have D7 : Hid (Below w3.heap.size w3 w7) := (show _ from D_w5.out.trans (D_w7.out.mono D_w5.out.size))
            clear D_w7
            have D_w7 := D7
            have bw5 : Below w3.heap.size w3 w7 := D_w7.out
            have L5 : Hid (Below N0 w w7) := (show _ from L3.out.trans (bw5.mono (by omega)))
            have O5 := hide (O3.out.kept bw5)
            have B5 := hide (HB3.out.kept bw5)
            have R5 : Hid (w7.rangeAt br (orr + k * 3) (PC y)) := (show _ from fun j u hj => (Below.cell bw5 (p := ⟨br, orr + k * 3 + j, none⟩) hb_r).trans (R_r.out j u hj))
            have hN5 : Hid (N0 ≤ w7.heap.size) := (show _ ≤ _ by have := bw5.size; omega)
            obtain ⟨dd, HD⟩ : ∃ d, Hid (y.2.2 = d) := ⟨_, rfl⟩
            have HOV := hide (ovl_some HNX.out)
            clear bw5
            cases dd with
            | true =>
              go_wp2_with (first
              | (refine wpList_load_mid rfl 51 _ rfl br (orr + k * 3) rfl (PC y) _ R5.out Tryz.underlying51 rfl Tryz.size51 ?_)
              | (refine wpList_store_blk rfl 51 _ _ rfl E (PC zp) (PC y) 51 rfl rfl B5.out rfl Tryz.size51 (PC_one _) ?_; intro w6 hb6 hu6; have B6 := hide hb6; have cd := hb6.dead; rw [HD.out] at cd; have C6 := hide (Chg.of_but (F := fun b => b = E) hu6 rfl); have O6 := hide (O5.out.chg C6.out HOE.out); have HL8 : Hid (N0 ≤ (w6.alloc (.cells (PC y).toArray 51 (0, 0))).heap.size) := (show _ ≤ _ from Nat.le_trans hN5.out (Nat.le_trans C6.out.size (by simp))); clear hb6 hu6)
              | fail)
              have L6 : Hid (Below N0 w w6) := (show _ from L5.out.trans (C6.out.below hN5.out (fun k hk h => by omega)))
              go_roundg (n + m + 1 - (i + 1) - (k + 1))
              case measure => omega
              case rel => exact ⟨out, p, q, d, i + 1, k + 1, rfl, by go_num, by go_num, by omega, by omega, by omega, O6, (show _ = _ by rw [← HTT.out, HOV.out]; simp [HD.out]), L6, (show _ ≤ _ by have := HLL.out; omega)⟩
            | false =>
              have HL9 : Hid (out.length + [y].length ≤ 10000000) := (show _ ≤ _ by have := HLL.out; rw [List.length_singleton]; omega)
              go_wp2_with (first
              | (refine wpList_load_mid rfl 51 _ rfl br (orr + k * 3) rfl (PC y) _ R5.out Tryz.underlying51 rfl Tryz.size51 ?_)
              | (refine wpList_store_blk rfl 51 _ _ rfl E (PC zp) (PC y) 51 rfl rfl B5.out rfl Tryz.size51 (PC_one _) ?_; intro w6 hb6 hu6; have B6 := hide hb6; have cd := hb6.dead; rw [HD.out] at cd; have C6 := hide (Chg.of_but (F := fun b => b = E) hu6 rfl); have O6 := hide (O5.out.chg C6.out HOE.out); have HL8 : Hid (N0 ≤ (w6.alloc (.cells (PC y).toArray 51 (0, 0))).heap.size) := (show _ ≤ _ from Nat.le_trans hN5.out (Nat.le_trans C6.out.size (by simp))); clear hb6 hu6)
              | (refine wpList_load_mid rfl 51 _ rfl E 0 rfl (PC y) _ B6.out.range0 Tryz.underlying51 rfl Tryz.size51 ?_)
              | (refine wpList_build_row rfl _ rfl y rfl ?_)
              | (refine wpList_append_E Tryz.underlying35 infoP9 (by decide) rfl (.tmp 84) (.tmp 86) rfl N0 (.slice p q d) out rfl (O6.out.kept ((Below.refl _ _).alloc (Nat.le_refl _) _)) (.slice (some ⟨w6.heap.size, 0, none⟩) 1 1) [y] rfl (rdG_one (E := PE) w6 51 y) HL9.out HL8.out ?_; intro v9 w9 o9 g9 q9; have O9 := hide o9; have G9 := hide g9; clear o9 g9 q9; obtain ⟨p9, c9, hv9⟩ := O9.out.form; obtain ⟨n2, hn2⟩ : ∃ k, (out ++ [y]).length = k := ⟨_, rfl⟩; rw [hn2] at hv9; subst hv9; have HN2 := hide hn2; clear hn2)
              | fail)
              have hG : Chg (fun b => (Value.slice p q d).ownBlock = some b) w6 w9 := (Chg.alloc _ w6 (.cells (PC y).toArray 51 (0, 0))).trans (Chg.of_grown G9.out (fun k e _ => e))
              have hOb : ∀ b, (Value.slice p q d).ownBlock = some b → N0 ≤ b := fun b hb => (O6.out.block hb).1
              have L9 : Hid (Below N0 w w9) := (show _ from (L5.out.trans (C6.out.below hN5.out (fun k hk h => by omega))).trans (hG.below (Nat.le_trans hN5.out C6.out.size) (fun k hk h => by have := hOb _ h; omega)))
              clear hG hOb
              go_roundg (n + m + 1 - (i + 1) - (k + 1))
              case measure => omega
              case rel => exact ⟨out ++ [y], p9, n2, c9, i + 1, k + 1, rfl, by go_num, by go_num, by omega, by omega, by omega, O9, (show _ = _ by rw [← HTT.out, HOV.out]; simp [HD.out]), L9, (show _ ≤ _ by have := HLL.out; rw [List.length_append, List.length_singleton]; omega)⟩
          | false =>
            have HNX : Hid (nxt (l.drop i) (r.drop k) = some (y, l.drop i, r.drop (k + 1))) := (show _ = _ by rw [HNB.out, if_neg (by show ¬ lt x.1 y.1 = true; unfold lt; rw [h6]; simp), if_neg (fun e => by rw [e] at h7; simp at h7)])
            refine wp_region_quiet_below Tryz.mixed (by kernel_rfl) ?_
            repeat (go_big_quiet_step (fail))
            refine wpQuiet_nil ?_
            intro w7 hw5
            have D_w7 : Hid (Below w5.heap.size w5 w7) := (show Below _ _ _ by obtain ⟨⟨dq, osq⟩, rfl⟩ := hw5; exact below_regrown w5 dq osq)
            clear hw5 k_l k_r
            have D7 : Hid (Below w3.heap.size w3 w7) := (show _ from D_w5.out.trans (D_w7.out.mono D_w5.out.size))
            clear D_w7
            have D_w7 := D7
            have bw5 : Below w3.heap.size w3 w7 := D_w7.out
            have L5 : Hid (Below N0 w w7) := (show _ from L3.out.trans (bw5.mono (by omega)))
            have O5 := hide (O3.out.kept bw5)
            have B5 := hide (HB3.out.kept bw5)
            have R5 : Hid (w7.rangeAt br (orr + k * 3) (PC y)) := (show _ from fun j u hj => (Below.cell bw5 (p := ⟨br, orr + k * 3 + j, none⟩) hb_r).trans (R_r.out j u hj))
            have hN5 : Hid (N0 ≤ w7.heap.size) := (show _ ≤ _ by have := bw5.size; omega)
            obtain ⟨dd, HD⟩ : ∃ d, Hid (y.2.2 = d) := ⟨_, rfl⟩
            have HOV := hide (ovl_some HNX.out)
            clear bw5
            cases dd with
            | true =>
              go_wp2_with (first
              | (refine wpList_load_mid rfl 51 _ rfl br (orr + k * 3) rfl (PC y) _ R5.out Tryz.underlying51 rfl Tryz.size51 ?_)
              | (refine wpList_store_blk rfl 51 _ _ rfl E (PC zp) (PC y) 51 rfl rfl B5.out rfl Tryz.size51 (PC_one _) ?_; intro w6 hb6 hu6; have B6 := hide hb6; have cd := hb6.dead; rw [HD.out] at cd; have C6 := hide (Chg.of_but (F := fun b => b = E) hu6 rfl); have O6 := hide (O5.out.chg C6.out HOE.out); have HL8 : Hid (N0 ≤ (w6.alloc (.cells (PC y).toArray 51 (0, 0))).heap.size) := (show _ ≤ _ from Nat.le_trans hN5.out (Nat.le_trans C6.out.size (by simp))); clear hb6 hu6)
              | fail)
              have L6 : Hid (Below N0 w w6) := (show _ from L5.out.trans (C6.out.below hN5.out (fun k hk h => by omega)))
              go_roundg (n + m + 1 - (i) - (k + 1))
              case measure => omega
              case rel => exact ⟨out, p, q, d, i, k + 1, rfl, rfl, by go_num, by omega, by omega, by omega, O6, (show _ = _ by rw [← HTT.out, HOV.out]; simp [HD.out]), L6, (show _ ≤ _ by have := HLL.out; omega)⟩
            | false =>
              have HL9 : Hid (out.length + [y].length ≤ 10000000) := (show _ ≤ _ by have := HLL.out; rw [List.length_singleton]; omega)
              go_wp2_with (first
              | (refine wpList_load_mid rfl 51 _ rfl br (orr + k * 3) rfl (PC y) _ R5.out Tryz.underlying51 rfl Tryz.size51 ?_)
              | (refine wpList_store_blk rfl 51 _ _ rfl E (PC zp) (PC y) 51 rfl rfl B5.out rfl Tryz.size51 (PC_one _) ?_; intro w6 hb6 hu6; have B6 := hide hb6; have cd := hb6.dead; rw [HD.out] at cd; have C6 := hide (Chg.of_but (F := fun b => b = E) hu6 rfl); have O6 := hide (O5.out.chg C6.out HOE.out); have HL8 : Hid (N0 ≤ (w6.alloc (.cells (PC y).toArray 51 (0, 0))).heap.size) := (show _ ≤ _ from Nat.le_trans hN5.out (Nat.le_trans C6.out.size (by simp))); clear hb6 hu6)
              | (refine wpList_load_mid rfl 51 _ rfl E 0 rfl (PC y) _ B6.out.range0 Tryz.underlying51 rfl Tryz.size51 ?_)
              | (refine wpList_build_row rfl _ rfl y rfl ?_)
              | (refine wpList_append_E Tryz.underlying35 infoP9 (by decide) rfl (.tmp 84) (.tmp 86) rfl N0 (.slice p q d) out rfl (O6.out.kept ((Below.refl _ _).alloc (Nat.le_refl _) _)) (.slice (some ⟨w6.heap.size, 0, none⟩) 1 1) [y] rfl (rdG_one (E := PE) w6 51 y) HL9.out HL8.out ?_; intro v9 w9 o9 g9 q9; have O9 := hide o9; have G9 := hide g9; clear o9 g9 q9; obtain ⟨p9, c9, hv9⟩ := O9.out.form; obtain ⟨n2, hn2⟩ : ∃ k, (out ++ [y]).length = k := ⟨_, rfl⟩; rw [hn2] at hv9; subst hv9; have HN2 := hide hn2; clear hn2)
              | fail)
              have hG : Chg (fun b => (Value.slice p q d).ownBlock = some b) w6 w9 := (Chg.alloc _ w6 (.cells (PC y).toArray 51 (0, 0))).trans (Chg.of_grown G9.out (fun k e _ => e))
              have hOb : ∀ b, (Value.slice p q d).ownBlock = some b → N0 ≤ b := fun b hb => (O6.out.block hb).1
              have L9 : Hid (Below N0 w w9) := (show _ from (L5.out.trans (C6.out.below hN5.out (fun k hk h => by omega))).trans (hG.below (Nat.le_trans hN5.out C6.out.size) (fun k hk h => by have := hOb _ h; omega)))
              clear hG hOb
              go_roundg (n + m + 1 - (i) - (k + 1))
              case measure => omega
              case rel => exact ⟨out ++ [y], p9, n2, c9, i, k + 1, rfl, rfl, by go_num, by omega, by omega, by omega, O9, (show _ = _ by rw [← HTT.out, HOV.out]; simp [HD.out]), L9, (show _ ≤ _ by have := HLL.out; rw [List.length_append, List.length_singleton]; omega)⟩
      · have hlt_l : i < l.length := by rw [HN.out]; omega
        obtain ⟨bl, ol, rfl, hb_l, hc_l⟩ := H13.out.nth (by omega)
        have rl : w3.rangeAt bl (ol + i * 3) (PC l[i]) := hc_l i hlt_l
        obtain ⟨x, HX⟩ : ∃ x, Hid (l[i] = x) := ⟨l[i], (show l[i] = l[i] from rfl)⟩
        rw [HX.out] at rl
        have R_l := hide rl
        have k_l := cell_regrown (show w3.cell? ⟨bl, ol + i * 3, none⟩ = some (.string x.1) from rl 0 _ rfl)
        clear hc_l rl
        have q1 : decide ((i : Int) < (n : Int)) = true := by simp; omega
        have q3 : ((k : Int) == (m : Int)) = true := by simp; omega
        have q1' : (i : Int) < (n : Int) := by omega
        have HNX : Hid (nxt (l.drop i) (r.drop k) = some (x, l.drop (i + 1), r.drop k)) := (show _ = _ by
          rw [List.drop_eq_nil_of_le (show r.length ≤ k by rw [HM.out]; omega), nxt_l hlt_l, HX.out])
        go_upto_region 7 with fail
        rw [← HW3.out, HE.out]
        refine wp_region_quiet_below Tryz.mixed (by kernel_rfl) ?_
        repeat (go_big_quiet_step (fail))
        refine wpQuiet_nil ?_
        intro w5 hw5
        have D_w5 : Hid (Below w3.heap.size w3 w5) := (show Below _ _ _ by obtain ⟨⟨dq, osq⟩, rfl⟩ := hw5; exact below_regrown w3 dq osq)
        clear hw5 k_l
        have bw5 : Below w3.heap.size w3 w5 := D_w5.out
        have L5 : Hid (Below N0 w w5) := (show _ from L3.out.trans (bw5.mono (by omega)))
        have O5 := hide (O3.out.kept bw5)
        have B5 := hide (HB3.out.kept bw5)
        have R5 : Hid (w5.rangeAt bl (ol + i * 3) (PC x)) := (show _ from fun j u hj => (Below.cell bw5 (p := ⟨bl, ol + i * 3 + j, none⟩) hb_l).trans (R_l.out j u hj))
        have hN5 : Hid (N0 ≤ w5.heap.size) := (show _ ≤ _ by have := bw5.size; omega)
        obtain ⟨dd, HD⟩ : ∃ d, Hid (x.2.2 = d) := ⟨_, rfl⟩
        have HOV := hide (ovl_some HNX.out)
        clear bw5
        cases dd with
        | true =>
          go_wp2_with (first
          | (refine wpList_load_mid rfl 51 _ rfl bl (ol + i * 3) rfl (PC x) _ R5.out Tryz.underlying51 rfl Tryz.size51 ?_)
          | (refine wpList_store_blk rfl 51 _ _ rfl E (PC zp) (PC x) 51 rfl rfl B5.out rfl Tryz.size51 (PC_one _) ?_; intro w6 hb6 hu6; have B6 := hide hb6; have cd := hb6.dead; rw [HD.out] at cd; have C6 := hide (Chg.of_but (F := fun b => b = E) hu6 rfl); have O6 := hide (O5.out.chg C6.out HOE.out); have HL8 : Hid (N0 ≤ (w6.alloc (.cells (PC x).toArray 51 (0, 0))).heap.size) := (show _ ≤ _ from Nat.le_trans hN5.out (Nat.le_trans C6.out.size (by simp))); clear hb6 hu6)
          | fail)
          have L6 : Hid (Below N0 w w6) := (show _ from L5.out.trans (C6.out.below hN5.out (fun k hk h => by omega)))
          go_roundg (n + m + 1 - (i + 1) - (k))
          case measure => omega
          case rel => exact ⟨out, p, q, d, i + 1, k, rfl, by go_num, rfl, by omega, by omega, by omega, O6, (show _ = _ by rw [← HTT.out, HOV.out]; simp [HD.out]), L6, (show _ ≤ _ by have := HLL.out; omega)⟩
        | false =>
          have HL9 : Hid (out.length + [x].length ≤ 10000000) := (show _ ≤ _ by have := HLL.out; rw [List.length_singleton]; omega)
          go_wp2_with (first
          | (refine wpList_load_mid rfl 51 _ rfl bl (ol + i * 3) rfl (PC x) _ R5.out Tryz.underlying51 rfl Tryz.size51 ?_)
          | (refine wpList_store_blk rfl 51 _ _ rfl E (PC zp) (PC x) 51 rfl rfl B5.out rfl Tryz.size51 (PC_one _) ?_; intro w6 hb6 hu6; have B6 := hide hb6; have cd := hb6.dead; rw [HD.out] at cd; have C6 := hide (Chg.of_but (F := fun b => b = E) hu6 rfl); have O6 := hide (O5.out.chg C6.out HOE.out); have HL8 : Hid (N0 ≤ (w6.alloc (.cells (PC x).toArray 51 (0, 0))).heap.size) := (show _ ≤ _ from Nat.le_trans hN5.out (Nat.le_trans C6.out.size (by simp))); clear hb6 hu6)
          | (refine wpList_load_mid rfl 51 _ rfl E 0 rfl (PC x) _ B6.out.range0 Tryz.underlying51 rfl Tryz.size51 ?_)
          | (refine wpList_build_row rfl _ rfl x rfl ?_)
          | (refine wpList_append_E Tryz.underlying35 infoP9 (by decide) rfl (.tmp 84) (.tmp 86) rfl N0 (.slice p q d) out rfl (O6.out.kept ((Below.refl _ _).alloc (Nat.le_refl _) _)) (.slice (some ⟨w6.heap.size, 0, none⟩) 1 1) [x] rfl (rdG_one (E := PE) w6 51 x) HL9.out HL8.out ?_; intro v9 w9 o9 g9 q9; have O9 := hide o9; have G9 := hide g9; clear o9 g9 q9; obtain ⟨p9, c9, hv9⟩ := O9.out.form; obtain ⟨n2, hn2⟩ : ∃ k, (out ++ [x]).length = k := ⟨_, rfl⟩; rw [hn2] at hv9; subst hv9; have HN2 := hide hn2; clear hn2)
          | fail)
          have hG : Chg (fun b => (Value.slice p q d).ownBlock = some b) w6 w9 := (Chg.alloc _ w6 (.cells (PC x).toArray 51 (0, 0))).trans (Chg.of_grown G9.out (fun k e _ => e))
          have hOb : ∀ b, (Value.slice p q d).ownBlock = some b → N0 ≤ b := fun b hb => (O6.out.block hb).1
          have L9 : Hid (Below N0 w w9) := (show _ from (L5.out.trans (C6.out.below hN5.out (fun k hk h => by omega))).trans (hG.below (Nat.le_trans hN5.out C6.out.size) (fun k hk h => by have := hOb _ h; omega)))
          clear hG hOb
          go_roundg (n + m + 1 - (i + 1) - (k))
          case measure => omega
          case rel => exact ⟨out ++ [x], p9, n2, c9, i + 1, k, rfl, by go_num, rfl, by omega, by omega, by omega, O9, (show _ = _ by rw [← HTT.out, HOV.out]; simp [HD.out]), L9, (show _ ≤ _ by have := HLL.out; rw [List.length_append, List.length_singleton]; omega)⟩
    · by_cases hkm : k < m
      · have hlt_r : k < r.length := by rw [HM.out]; omega
        obtain ⟨br, orr, rfl, hb_r, hc_r⟩ := H23.out.nth (by omega)
        have rr : w3.rangeAt br (orr + k * 3) (PC r[k]) := hc_r k hlt_r
        obtain ⟨y, HY⟩ : ∃ x, Hid (r[k] = x) := ⟨r[k], (show r[k] = r[k] from rfl)⟩
        rw [HY.out] at rr
        have R_r := hide rr
        have k_r := cell_regrown (show w3.cell? ⟨br, orr + k * 3, none⟩ = some (.string y.1) from rr 0 _ rfl)
        clear hc_r rr
        have q1 : decide ((i : Int) < (n : Int)) = false := by simp; omega
        have q2 : decide ((k : Int) < (m : Int)) = true := by simp; omega
        have q3 : ((k : Int) == (m : Int)) = false := by simp; omega
        have q2' : (k : Int) < (m : Int) := by omega
        have HNX : Hid (nxt (l.drop i) (r.drop k) = some (y, l.drop i, r.drop (k + 1))) := (show _ = _ by
          rw [List.drop_eq_nil_of_le (show l.length ≤ i by rw [HN.out]; omega), nxt_r hlt_r, HY.out])
        go_upto_region 7 with fail
        rw [← HW3.out, HE.out]
        refine wp_region_quiet_below Tryz.mixed (by kernel_rfl) ?_
        repeat (go_big_quiet_step (fail))
        refine wpQuiet_nil ?_
        intro w5 hw5
        have D_w5 : Hid (Below w3.heap.size w3 w5) := (show Below _ _ _ by obtain ⟨⟨dq, osq⟩, rfl⟩ := hw5; exact below_regrown w3 dq osq)
        clear hw5 
        go_upto_region 10 with fail
        refine wp_region_quiet_below Tryz.mixed (by kernel_rfl) ?_
        repeat (go_big_quiet_step (fail))
        refine wpQuiet_nil ?_
        intro w7 hw5
        have D_w7 : Hid (Below w5.heap.size w5 w7) := (show Below _ _ _ by obtain ⟨⟨dq, osq⟩, rfl⟩ := hw5; exact below_regrown w5 dq osq)
        clear hw5 k_r
        have D7 : Hid (Below w3.heap.size w3 w7) := (show _ from D_w5.out.trans (D_w7.out.mono D_w5.out.size))
        clear D_w7
        have D_w7 := D7
        have bw5 : Below w3.heap.size w3 w7 := D_w7.out
        have L5 : Hid (Below N0 w w7) := (show _ from L3.out.trans (bw5.mono (by omega)))
        have O5 := hide (O3.out.kept bw5)
        have B5 := hide (HB3.out.kept bw5)
        have R5 : Hid (w7.rangeAt br (orr + k * 3) (PC y)) := (show _ from fun j u hj => (Below.cell bw5 (p := ⟨br, orr + k * 3 + j, none⟩) hb_r).trans (R_r.out j u hj))
        have hN5 : Hid (N0 ≤ w7.heap.size) := (show _ ≤ _ by have := bw5.size; omega)
        obtain ⟨dd, HD⟩ : ∃ d, Hid (y.2.2 = d) := ⟨_, rfl⟩
        have HOV := hide (ovl_some HNX.out)
        clear bw5
        cases dd with
        | true =>
          go_wp2_with (first
          | (refine wpList_load_mid rfl 51 _ rfl br (orr + k * 3) rfl (PC y) _ R5.out Tryz.underlying51 rfl Tryz.size51 ?_)
          | (refine wpList_store_blk rfl 51 _ _ rfl E (PC zp) (PC y) 51 rfl rfl B5.out rfl Tryz.size51 (PC_one _) ?_; intro w6 hb6 hu6; have B6 := hide hb6; have cd := hb6.dead; rw [HD.out] at cd; have C6 := hide (Chg.of_but (F := fun b => b = E) hu6 rfl); have O6 := hide (O5.out.chg C6.out HOE.out); have HL8 : Hid (N0 ≤ (w6.alloc (.cells (PC y).toArray 51 (0, 0))).heap.size) := (show _ ≤ _ from Nat.le_trans hN5.out (Nat.le_trans C6.out.size (by simp))); clear hb6 hu6)
          | fail)
          have L6 : Hid (Below N0 w w6) := (show _ from L5.out.trans (C6.out.below hN5.out (fun k hk h => by omega)))
          go_roundg (n + m + 1 - (i) - (k + 1))
          case measure => omega
          case rel => exact ⟨out, p, q, d, i, k + 1, rfl, rfl, by go_num, by omega, by omega, by omega, O6, (show _ = _ by rw [← HTT.out, HOV.out]; simp [HD.out]), L6, (show _ ≤ _ by have := HLL.out; omega)⟩
        | false =>
          have HL9 : Hid (out.length + [y].length ≤ 10000000) := (show _ ≤ _ by have := HLL.out; rw [List.length_singleton]; omega)
          go_wp2_with (first
          | (refine wpList_load_mid rfl 51 _ rfl br (orr + k * 3) rfl (PC y) _ R5.out Tryz.underlying51 rfl Tryz.size51 ?_)
          | (refine wpList_store_blk rfl 51 _ _ rfl E (PC zp) (PC y) 51 rfl rfl B5.out rfl Tryz.size51 (PC_one _) ?_; intro w6 hb6 hu6; have B6 := hide hb6; have cd := hb6.dead; rw [HD.out] at cd; have C6 := hide (Chg.of_but (F := fun b => b = E) hu6 rfl); have O6 := hide (O5.out.chg C6.out HOE.out); have HL8 : Hid (N0 ≤ (w6.alloc (.cells (PC y).toArray 51 (0, 0))).heap.size) := (show _ ≤ _ from Nat.le_trans hN5.out (Nat.le_trans C6.out.size (by simp))); clear hb6 hu6)
          | (refine wpList_load_mid rfl 51 _ rfl E 0 rfl (PC y) _ B6.out.range0 Tryz.underlying51 rfl Tryz.size51 ?_)
          | (refine wpList_build_row rfl _ rfl y rfl ?_)
          | (refine wpList_append_E Tryz.underlying35 infoP9 (by decide) rfl (.tmp 84) (.tmp 86) rfl N0 (.slice p q d) out rfl (O6.out.kept ((Below.refl _ _).alloc (Nat.le_refl _) _)) (.slice (some ⟨w6.heap.size, 0, none⟩) 1 1) [y] rfl (rdG_one (E := PE) w6 51 y) HL9.out HL8.out ?_; intro v9 w9 o9 g9 q9; have O9 := hide o9; have G9 := hide g9; clear o9 g9 q9; obtain ⟨p9, c9, hv9⟩ := O9.out.form; obtain ⟨n2, hn2⟩ : ∃ k, (out ++ [y]).length = k := ⟨_, rfl⟩; rw [hn2] at hv9; subst hv9; have HN2 := hide hn2; clear hn2)
          | fail)
          have hG : Chg (fun b => (Value.slice p q d).ownBlock = some b) w6 w9 := (Chg.alloc _ w6 (.cells (PC y).toArray 51 (0, 0))).trans (Chg.of_grown G9.out (fun k e _ => e))
          have hOb : ∀ b, (Value.slice p q d).ownBlock = some b → N0 ≤ b := fun b hb => (O6.out.block hb).1
          have L9 : Hid (Below N0 w w9) := (show _ from (L5.out.trans (C6.out.below hN5.out (fun k hk h => by omega))).trans (hG.below (Nat.le_trans hN5.out C6.out.size) (fun k hk h => by have := hOb _ h; omega)))
          clear hG hOb
          go_roundg (n + m + 1 - (i) - (k + 1))
          case measure => omega
          case rel => exact ⟨out ++ [y], p9, n2, c9, i, k + 1, rfl, rfl, by go_num, by omega, by omega, by omega, O9, (show _ = _ by rw [← HTT.out, HOV.out]; simp [HD.out]), L9, (show _ ≤ _ by have := HLL.out; rw [List.length_append, List.length_singleton]; omega)⟩
      · have q1 : decide ((i : Int) < (n : Int)) = false := by simp; omega
        have q2 : decide ((k : Int) < (m : Int)) = false := by simp; omega
        have HX : Hid (T = out) := (show _ = _ by
          rw [← HTT.out, ovl_none]
          · simp
          · rw [List.drop_eq_nil_of_le (show l.length ≤ i by rw [HN.out]; omega), List.drop_eq_nil_of_le (show r.length ≤ k by rw [HM.out]; omega)]
            rfl)
        go_wp2_with fail
        go_ret
        refine ⟨_, rfl, ?_, HB.out⟩
        rw [HX.out]
        exact HO.out
end Go.Proofs.YtcicekggeampcaaGreat

/-
  The document's Buffer in memory: its put.
-/
namespace Go.Proofs.YtcicekggeampcaaGreat
open Go.RowKit
section
variable {α : Type} {E : Enc α}
end
/-- The document's Buffer at block R has the pairs L. -/
structure RBf (w : World) (R : Nat) (vr : Value) (L : List Pr) : Prop where
  d : Blk w R 93 [vr]
  own : OwnG PE w 0 51 vr L
theorem RBf.kept {w w' : World} {R : Nat} {vr : Value} {L : List Pr} (h : RBf w R vr L) (hb : Below w.heap.size w w') : RBf w' R vr L := ⟨h.d.kept hb, h.own.kept hb⟩
theorem RBf.chg {w w' : World} {R : Nat} {vr : Value} {L : List Pr} (h : RBf w R vr L) {F : Nat → Prop} (hc : Chg F w w') (hR : ¬ F R) (hF : ∀ b, vr.ownBlock = some b → ¬ F b) : RBf w' R vr L := ⟨h.d.chg hc hR, h.own.chg hc hF⟩
/-- A row of pairs is no Buffer. -/
theorem own_ne {w : World} {B R : Nat} {v u : Value} {L : List Pr} (ho : OwnG PE w B 51 v L) (hd : Blk w R 93 [u]) {b : Nat} (hb : v.ownBlock = some b) : b ≠ R := by
  obtain ⟨_, _, cur, hcur⟩ := ho.block hb
  rintro rfl
  have := hd.symm.trans hcur
  simp at this
theorem wpList_build_row0 {ops : Array Oper} {rest : List Oper} {o : Oper} {a : Act} {w : World} {Q : Exit → Act → World → Prop} (hgd : o.guard = none) (ho : o.op = .buildSlice 35 0 #[])
    (h : wpList Tryz.prog ops Q rest (a.put o.dst (.slice (some ⟨w.heap.size, 0, none⟩) 0 0)) (w.alloc (.cells #[] 51 (0, 0)))) : wpList Tryz.prog ops Q (o :: rest) a w := by
  refine wpList_plain hgd fun K hK => ?_
  have hr := build_row0 w
  unfold Oper.wp execOp
  simp only [ho, hr, List.map_toArray, List.map_nil, Sem.run_bind, Sem.run_pure, Result.andThen_ok]
  exact hK _ _ h
theorem getB_at {L : List Pr} {k : ByteArray} (hs : Bs L) {i : Nat} (hi : i < L.length) (hlb : lbB L k = i) : getB L k = if L[i].1 = k then some L[i] else none := by
  rw [getB_lb hs, hlb, List.getElem?_eq_getElem hi]
  rfl
theorem getB_end {L : List Pr} {k : ByteArray} (hs : Bs L) (hlb : lbB L k = L.length) : getB L k = none := by
  rw [getB_lb hs, hlb, List.getElem?_eq_none (Nat.le_refl _)]
  rfl
theorem insB_same {L : List Pr} {p : Pr} {i : Nat} (hi : i < L.length) (hlb : lbB L p.1 = i) (hk : L[i].1 = p.1) : insB p L = L.set i p := by
  rw [insB_at, hlb, List.getElem?_eq_getElem hi, List.set_eq_take_append_cons_drop, if_pos hi]
  simp [hk]
theorem insB_new {L : List Pr} {p : Pr} {i : Nat} (hs : Bs L) (hlb : lbB L p.1 = i) (hk : getB L p.1 = none) : insB p L = L.take i ++ ([p] ++ L.drop i) := by
  rw [insB_at, hlb]
  rw [getB_lb hs, hlb] at hk
  cases h : L[i]? with
  | none => simp
  | some x =>
    rw [h] at hk
    by_cases e : x.1 = p.1
    · simp [e] at hk
    · simp [e]
theorem lb_is {L : List Pr} {k : ByteArray} (hs : Bs L) {i : Nat} (hi : i < L.length) : lt L[i].1 k = decide (i < lbB L k) := by
  by_cases h : i < lbB L k
  · rw [lbB_below hi h, decide_eq_true h]
  · rw [decide_eq_false h]
    have hl : lbB L k < L.length := by omega
    have h1 := lbB_at hl
    by_cases e : lbB L k = i
    · subst e; exact h1
    · have h2 : lt (L[lbB L k]).1 L[i].1 = true := List.pairwise_iff_getElem.1 hs _ _ hl hi (by omega)
      cases h3 : lt L[i].1 k with
      | false => rfl
      | true => rw [lt_trans h2 h3] at h1; cases h1
set_option maxRecDepth 100000 in
set_option maxHeartbeats 8000000 in
theorem rput_any {w : World} {R : Nat} {vr : Value} {L : List Pr} (h : RBf w R vr L) (hs : Bs L) (hl64 : L.length ≤ 64) (p : Pr) :
    Calls Tryz.prog 81 #[PT R, .agg (PC p).toArray] w fun e w' => e = .returned (.int .i64 (wrE L p)) ∧ ∃ vr', RBf w' R vr' (wrB L p) ∧ Chg (fun b => b = R) w w' := by
  have HS := hide h
  have HSS := hide hs
  obtain ⟨a, cp, rfl⟩ := h.own.rd.slice
  have hcp : L.length ≤ cp := h.own.rd.cap
  clear h hs
  obtain ⟨n_, HN⟩ : ∃ n, Hid (L.length = n) := ⟨_, rfl⟩
  rw [HN.out] at HS hl64 hcp
  obtain ⟨ks, HKS⟩ : ∃ N, Hid (p.1.size = N) := ⟨_, rfl⟩
  obtain ⟨vs, HVS⟩ : ∃ N, Hid (p.2.1.size = N) := ⟨_, rfl⟩
  have HW : Hid (∀ e, wrE L p = e → e ≠ 0 → wrB L p = L) := (show _ from fun e he hn => by unfold wrB; rw [if_neg (by rw [he]; exact hn)])
  have HW0 : Hid (wrE L p = 0 → wrB L p = insB p L) := (show _ from fun he => by unfold wrB; rw [if_pos he])
  have hls : ∀ W, (Builtin.len_ #[9] 3 #[.string p.1]).run Tryz.prog W = .ok (.int .i64 (ks : Int)) W := fun W => by rw [← HKS.out]; simp [Builtin.len_, go_sem]
  have hlv : ∀ W, (Builtin.len_ #[9] 3 #[.string p.2.1]).run Tryz.prog W = .ok (.int .i64 (vs : Int)) W := fun W => by rw [← HVS.out]; simp [Builtin.len_, go_sem]
  have L1 := hide ((Below.refl w.heap.size w).alloc (Nat.le_refl _) (.cells (PC p).toArray 51 (0, 0)))
  have B1 := hide (Blk.new w 51 (PC p))
  obtain ⟨i0, HI0⟩ : ∃ n, Hid (lbB L p.1 = n) := ⟨_, rfl⟩
  have hi0 : i0 ≤ n_ := by have := lbB_le L p.1; rw [HN.out, HI0.out] at this; exact this
  have HLT : Hid (∀ i (hi : i < L.length), lt L[i].1 p.1 = decide (i < i0)) := (show ∀ i (hi : i < L.length), _ from fun i hi => by
    have := lb_is (k := p.1) HSS.out hi
    rw [HI0.out] at this
    exact this)
  go_enter Tryz.func81, Tryz.ntmps81
  go_wp2_with fail
  obtain ⟨E, HE⟩ : ∃ E, Hid (w.heap.size = E) := ⟨_, rfl⟩
  obtain ⟨w1, hw1⟩ : ∃ x, x = w.alloc (.cells (PC p).toArray 51 (0, 0)) := ⟨_, rfl⟩
  rw [← hw1] at L1 B1 ⊢
  rw [HE.out] at B1 ⊢
  clear hw1
  go_loopg [5] i0 (fun g x wr => ∃ (i : Nat), g + i = i0 ∧ x = .int .i64 (i : Int) ∧ Hid (Below w.heap.size w wr) ∧ Hid (Blk wr E 51 (PC p)))
  case atStart => exact ⟨0, by omega, rfl, L1, B1⟩
  case round =>
    clear L1 B1
    obtain ⟨i, hgi, rfl, LR, BR⟩ := hrel
    have k0 := cell_regrown ((HS.out.d.kept LR.out).cell (j := 0) rfl)
    have kE := cell_regrown BR.out.key
    by_cases hlt : i < n_
    · have q2 : decide ((i : Int) < (n_ : Int)) = true := by simp; omega
      have q2' : (i : Int) < (n_ : Int) := by omega
      have hlt' : i < L.length := by rw [HN.out]; exact hlt
      obtain ⟨b, off, rfl, hlb, hx⟩ := ((HS.out.own.rd.kept LR.out)).nth (by omega)
      have hr : wr.rangeAt b (off + i * 3) (PC L[i]) := hx i hlt'
      obtain ⟨x, HX⟩ : ∃ x, Hid (L[i] = x) := ⟨L[i], (show L[i] = L[i] from rfl)⟩
      rw [HX.out] at hr
      have HR := hide hr
      have kn := cell_regrown (show wr.cell? ⟨b, off + i * 3, none⟩ = some (.string x.1) from hr 0 _ rfl)
      have q3 := HLT.out i hlt'
      rw [HX.out] at q3
      clear hx hr
      by_cases hi : i < i0
      · have q4 : Op.bytesLess x.1.toList p.1.toList = true := by show lt x.1 p.1 = true; rw [q3]; simpa using hi
        clear q3
        go_upto_region 2 with fail
        refine wp_region_quiet_below Tryz.mixed (by kernel_rfl) ?_
        repeat (go_big_quiet_step (fail))
        refine wpQuiet_nil ?_
        intro w5 hw5
        have D5 : Hid (Below wr.heap.size wr w5) := (show Below _ _ _ by obtain ⟨⟨dq, osq⟩, rfl⟩ := hw5; exact below_regrown wr dq osq)
        have L5 : Hid (Below w.heap.size w w5) := LR.out.trans (D5.out.mono LR.out.size)
        have B5 := hide (BR.out.kept D5.out)
        clear hw5 k0 kE
        clear kn
        go_wp2_with fail
        go_roundg (gk - 1)
        case measure => omega
        case rel => exact ⟨i + 1, by omega, by go_num, L5, B5⟩
      · obtain rfl : i = i0 := by omega
        have q4 : Op.bytesLess x.1.toList p.1.toList = false := by show lt x.1 p.1 = false; rw [q3]; simp
        clear q3
        go_upto_region 2 with fail
        refine wp_region_quiet_below Tryz.mixed (by kernel_rfl) ?_
        repeat (go_big_quiet_step (fail))
        refine wpQuiet_nil ?_
        intro w5 hw5
        have D5 : Hid (Below wr.heap.size wr w5) := (show Below _ _ _ by obtain ⟨⟨dq, osq⟩, rfl⟩ := hw5; exact below_regrown wr dq osq)
        have L5 : Hid (Below w.heap.size w w5) := LR.out.trans (D5.out.mono LR.out.size)
        have B5 := hide (BR.out.kept D5.out)
        clear hw5 k0 kE
        clear kn
        have c0 := B5.out.key
        have c1 := B5.out.val
        by_cases h1 : ks < 1
        · have q1 : decide ((ks : Int) < 1) = true := by simp; omega
          have HE9 : Hid (wrE L p = 2) := (show _ = _ by unfold wrE; rw [HKS.out, if_pos (.inl h1)])
          go_wp2_with fail
          go_ret
          exact ⟨by rw [HE9.out]; rfl, _, by rw [HW.out _ HE9.out (by decide)]; exact HS.out.kept L5.out, Chg.of_below L5.out⟩
        · have q1 : decide ((ks : Int) < 1) = false := by simp; omega
          by_cases h2 : 64 < ks
          · have q7 : decide (64 < (ks : Int)) = true := by simp; omega
            have HE9 : Hid (wrE L p = 2) := (show _ = _ by unfold wrE; rw [HKS.out, if_pos (.inr h2)])
            go_wp2_with fail
            go_ret
            exact ⟨by rw [HE9.out]; rfl, _, by rw [HW.out _ HE9.out (by decide)]; exact HS.out.kept L5.out, Chg.of_below L5.out⟩
          · have q7 : decide (64 < (ks : Int)) = false := by simp; omega
            by_cases h3 : 256 < vs
            · have q8 : decide (256 < (vs : Int)) = true := by simp; omega
              have HE9 : Hid (wrE L p = 12) := (show _ = _ by unfold wrE; rw [HKS.out, HVS.out, if_neg (by omega), if_pos h3])
              go_wp2_with fail
              go_ret
              exact ⟨by rw [HE9.out]; rfl, _, by rw [HW.out _ HE9.out (by decide)]; exact HS.out.kept L5.out, Chg.of_below L5.out⟩
            · have q8 : decide (256 < (vs : Int)) = false := by simp; omega
              have k0 := cell_regrown ((HS.out.d.kept L5.out).cell (j := 0) rfl)
              have kE := cell_regrown B5.out.key
              have kn := cell_regrown (show w5.cell? ⟨b, off + i * 3, none⟩ = some (.string x.1) from (D5.out.cell (p := ⟨b, off + i * 3, none⟩) hlb).trans (HR.out 0 _ rfl))
              go_upto_region 8 with fail
              clear c0 c1
              cases h6 : x.1.toList == p.1.toList with
              | true =>
                have HK : Hid (x.1 = p.1) := (show _ = _ from ba_inj.1 (by simpa using h6))
                refine wp_region_quiet_below Tryz.mixed (by kernel_rfl) ?_
                repeat (go_big_quiet_step (fail))
                refine wpQuiet_nil ?_
                intro w6 hw5
                have D6 : Hid (Below w5.heap.size w5 w6) := (show Below _ _ _ by obtain ⟨⟨dq, osq⟩, rfl⟩ := hw5; exact below_regrown w5 dq osq)
                have L6 : Hid (Below w.heap.size w w6) := L5.out.trans (D6.out.mono L5.out.size)
                have B6 := hide (B5.out.kept D6.out)
                clear hw5 k0 kE
                clear kn
                have HE9 : Hid (wrE L p = 0) := (show _ = _ by unfold wrE; rw [HKS.out, HVS.out, if_neg (by omega), if_neg h3, if_neg]; rintro ⟨h9, -⟩; rw [getB_at HSS.out hlt' HI0.out, HX.out, if_pos HK.out] at h9; cases h9)
                have HWB : Hid (wrB L p = L.set i p) := (show _ = _ by rw [HW0.out HE9.out]; exact insB_same hlt' HI0.out (by rw [HX.out]; exact HK.out))
                obtain ⟨w7, hw7⟩ : ∃ z, z = w6.alloc (.cells #[] 51 (0, 0)) := ⟨_, rfl⟩
                obtain ⟨G, HG⟩ : ∃ z, Hid (w6.heap.size = z) := ⟨_, rfl⟩
                have hb7 : Below w6.heap.size w6 w7 := by rw [hw7]; exact (Below.refl _ _).alloc (Nat.le_refl _) _
                have L7 : Hid (Below w.heap.size w w7) := L6.out.trans (hb7.mono L6.out.size)
                have O7 : Hid (OwnG PE w7 w.heap.size 51 (.slice (some ⟨G, 0, none⟩) 0 0) []) := (show OwnG _ _ _ _ _ _ by rw [hw7, ← HG.out]; exact ownG_none w6 _ 51 L6.out.size)
                have B7 := hide (B6.out.kept hb7)
                have hGE : E < G := by rw [← HG.out]; exact B6.out.lt
                have HRG : Hid (R < G ∧ E ≤ G ∧ w.heap.size ≤ G) := (show _ ∧ _ ∧ _ from ⟨by rw [← HG.out]; exact (HS.out.d.kept L6.out).lt, by omega, by rw [← HG.out]; exact L6.out.size⟩)
                have R7 := hide (HS.out.own.rd.kept L7.out)
                have D7 := hide (HS.out.d.kept L7.out)
                have cR := D7.out.cell (j := 0) rfl
                have HL9 : Hid (([] : List Pr).length + L.length ≤ 10000000) := (show _ ≤ _ by rw [HN.out]; simp; omega)
                have HL8 : Hid (w.heap.size ≤ w7.heap.size) := (show _ ≤ _ from L7.out.size)
                have HW7 := hide hw7
                have HIL : Hid (i < ([] ++ L).length) := (show _ < _ from hlt')
                clear hb7 hw7
                go_wp2_with (first
                  | (refine wpList_build_row0 rfl rfl ?_; rw [← HW7.out, HG.out])
                  | (refine wpList_append_E Tryz.underlying35 infoP9 (by decide) rfl (.tmp 66) (.tmp 70) rfl w.heap.size (.slice (some ⟨G, 0, none⟩) 0 0) [] rfl O7.out (.slice (some ⟨b, off, none⟩) n_ cp) L rfl R7.out HL9.out HL8.out ?_; intro v9 w9 o9 g9 q9; have O9 := hide o9; have G9 := hide g9; have Q9 := hide q9; clear o9 g9 q9; obtain ⟨gb, c9, cur9, hv9, -⟩ := O9.out.blk (Nat.lt_of_le_of_lt (Nat.zero_le _) HIL.out); rw [List.nil_append, HN.out] at hv9; subst hv9; have C9 : Hid (Chg (fun b => b = G) w7 w9) := (show _ from Chg.of_grown G9.out (fun k e _ => by cases e; rfl)); have B9 := hide (B7.out.chg C9.out (fun e => by omega)); have D9 := hide (D7.out.chg C9.out (fun e => by have := HRG.out.1; omega)))
                  | (refine wpList_load_mid rfl 51 _ rfl E 0 rfl (PC p) _ B9.out.range0 Tryz.underlying51 rfl Tryz.size51 ?_)
                  | (refine wpList_store_own rfl _ _ rfl gb i n_ c9 w.heap.size ([] ++ L) p rfl rfl O9.out HIL.out ?_; intro w10 ho10 hu10; have O10 := hide ho10; have C10 := hide (Chg.of_but (F := fun b => b = gb) hu10 rfl); have D10 := hide (D9.out.chg C10.out (fun e => own_ne O9.out D9.out (b := gb) rfl e.symm)); clear ho10 hu10)
                  | (refine wpList_store_ps rfl _ _ rfl R 93 _ _ _ _ rfl rfl D10.out ?_; intro w11 hb11 hu11; have D11 := hide hb11; have C11 := hide (Chg.of_but (F := fun b => b = R) hu11 rfl); clear hb11 hu11)
                  | fail)
                go_ret
                refine ⟨by rw [HE9.out]; rfl, .slice (some ⟨gb, 0, none⟩) n_ c9, ⟨D11.out, ?_⟩, ?_⟩
                · rw [HWB.out]
                  exact (O10.out.mono (Nat.zero_le _)).chg C11.out (fun b hb => own_ne O10.out D10.out hb)
                · have hgb : w.heap.size ≤ gb := (O9.out.block (b := gb) rfl).1
                  refine Chg.trans ?_ C11.out
                  refine Chg.then ?_ C10.out (fun k hk e => by omega)
                  exact Chg.then (Chg.of_below L7.out) C9.out (fun k hk e => by have := HRG.out.2.2; omega)
              | false =>
                have HNG : Hid (getB L p.1 = none) := (show _ = _ by rw [getB_at HSS.out hlt' HI0.out, HX.out, if_neg (fun e => by rw [e] at h6; simp at h6)])
                refine wp_region_quiet_below Tryz.mixed (by kernel_rfl) ?_
                repeat (go_big_quiet_step (fail))
                refine wpQuiet_nil ?_
                intro w6 hw5
                have D6 : Hid (Below w5.heap.size w5 w6) := (show Below _ _ _ by obtain ⟨⟨dq, osq⟩, rfl⟩ := hw5; exact below_regrown w5 dq osq)
                have L6 : Hid (Below w.heap.size w w6) := L5.out.trans (D6.out.mono L5.out.size)
                have B6 := hide (B5.out.kept D6.out)
                clear hw5 k0 kE
                clear kn
                by_cases h64 : 64 ≤ n_
                · have HE9 : Hid (wrE L p = 13) := (show _ = _ by unfold wrE; rw [HKS.out, HVS.out, if_neg (by omega), if_neg h3, if_pos ⟨by rw [HNG.out]; rfl, by rw [HN.out]; omega⟩])
                  have q9 : decide (64 ≤ (n_ : Int)) = true := by simp; omega
                  have cR := (HS.out.d.kept L6.out).cell (j := 0) rfl
                  go_wp2_with fail
                  go_ret
                  exact ⟨by rw [HE9.out]; rfl, _, by rw [HW.out _ HE9.out (by decide)]; exact HS.out.kept L6.out, Chg.of_below L6.out⟩
                · have HE9 : Hid (wrE L p = 0) := (show _ = _ by unfold wrE; rw [HKS.out, HVS.out, if_neg (by omega), if_neg h3, if_neg]; rintro ⟨-, h9⟩; rw [HN.out] at h9; omega)
                  have q9 : decide (64 ≤ (n_ : Int)) = false := by simp; omega
                  have cR := (HS.out.d.kept L6.out).cell (j := 0) rfl
                  go_upto_region 15 with fail
                  clear cR
                  obtain ⟨a2, hs2, -, hs3⟩ := slice_G (E := PE) (P := Tryz.prog) Tryz.underlying35 Tryz.size51 (some ⟨b, off, none⟩) n_ cp i (by omega) hcp
                  obtain ⟨hs1, hs4⟩ := slice_G_cap (E := PE) (P := Tryz.prog) Tryz.underlying35 Tryz.size51 (some ⟨b, off, none⟩) n_ cp i (by omega) hcp
                  obtain ⟨ti, tz, hti, hz0, hz1, hz2, hz3⟩ := infoP9
                  refine wp_region_tails Tryz.mixed (KS (fun i_ => match i_ with | 0 | 1 | 2 | 3 | 10 | 11 | 12 | 18 | 19 => .val (.pointer (some ⟨R, 0, none⟩)) | 4 | 13 => .val (.slice (some ⟨b, off, none⟩) n_ cp) | 5 | 6 | 14 => .val (.int .i64 (i : Int)) | 7 => .val (.slice (some ⟨b, off, none⟩) i i) | 8 => .val (.agg (PC p).toArray) | 9 => .of (fun W x => ∃ g, x = .slice (some g) 1 1 ∧ RdG PE W x [p]) (fun _ _ _ hg h => by obtain ⟨g, h1, h2⟩ := h; exact ⟨g, h1, h2.kept hg⟩) | 15 => .val (.slice a2 (n_ - i) (cp - i)) | 16 => .of (fun W x => RdG PE W x ([p] ++ L.drop i)) (fun _ _ _ hg h => RdG.kept h hg) | 17 => .of (fun W x => OwnG PE W w.heap.size 51 x (L.take i ++ ([p] ++ L.drop i))) (fun _ _ _ hg h => OwnG.kept h hg) | _ => .free)) 107 rfl (by decide +kernel) 20 (by decide) (by decide +kernel) (KS_mono _) ?_ ?_
                  · refine AllFrom.cons ⟨rfl, fun a' w' hg hk hd Q => ?_⟩ (AllFrom.cons ⟨rfl, fun a' w' hg hk hd Q => ?_⟩ (AllFrom.cons ⟨rfl, fun a' w' hg hk hd Q => ?_⟩ (AllFrom.cons ⟨rfl, fun a' w' hg hk hd Q => ?_⟩ (AllFrom.cons ⟨rfl, fun a' w' hg hk hd Q => ?_⟩ (AllFrom.cons ⟨rfl, fun a' w' hg hk hd Q => ?_⟩ (AllFrom.cons ⟨rfl, fun a' w' hg hk hd Q => ?_⟩ (AllFrom.cons ⟨rfl, fun a' w' hg hk hd Q => ?_⟩ (AllFrom.cons ⟨rfl, fun a' w' hg hk hd Q => ?_⟩ (AllFrom.cons ⟨rfl, fun a' w' hg hk hd Q => ?_⟩ (AllFrom.cons ⟨rfl, fun a' w' hg hk hd Q => ?_⟩ (AllFrom.cons ⟨rfl, fun a' w' hg hk hd Q => ?_⟩ (AllFrom.cons ⟨rfl, fun a' w' hg hk hd Q => ?_⟩ (AllFrom.cons ⟨rfl, fun a' w' hg hk hd Q => ?_⟩ (AllFrom.cons ⟨rfl, fun a' w' hg hk hd Q => ?_⟩ (AllFrom.cons ⟨rfl, fun a' w' hg hk hd Q => ?_⟩ (AllFrom.cons ⟨rfl, fun a' w' hg hk hd Q => ?_⟩ (AllFrom.cons ⟨rfl, fun a' w' hg hk hd Q => ?_⟩ (AllFrom.cons ⟨rfl, fun a' w' hg hk hd Q => ?_⟩ (AllFrom.cons ⟨rfl, fun a' w' hg hk hd Q => ?_⟩ AllFrom.nil)))))))))))))))))))
                    · -- 0: Op.move (Operand.tmp 0)
                      have e0 : a'.eval (.tmp 0) = .pointer (some ⟨R, 0, none⟩) := hk.at 0 (by decide +kernel)
                      exact wp_value _ (by simp only [execOp, e0]; rfl) (KS_mkv rfl rfl)
                    · -- 1: Op.move (Operand.tmp 0)
                      have e0 : a'.eval (.tmp 0) = .pointer (some ⟨R, 0, none⟩) := hk.at 0 (by decide +kernel)
                      exact wp_value _ (by simp only [execOp, e0]; rfl) (KS_mkv rfl rfl)
                    · -- 2: Op.nilCheck (Operand.tmp 88)
                      have e88 : a'.eval (.tmp 88) = .pointer (some ⟨R, 0, none⟩) := KS_val (Deps.val hd 1 88 (by decide +kernel)) rfl
                      clear hd hk
                      exact wp_value (.pointer (some ⟨R, 0, none⟩)) (by simp only [execOp, e88]; go_simp) (KS_mkv rfl rfl)
                    · -- 3: Op.fieldAddr 30 (Operand.tmp 89) 0
                      have e89 : a'.eval (.tmp 89) = .pointer (some ⟨R, 0, none⟩) := KS_val (Deps.val hd 2 89 (by decide +kernel)) rfl
                      clear hd hk
                      exact wp_value (.pointer (some ⟨R, 0, none⟩)) (by simp only [execOp, e89]; go_simp) (KS_mkv rfl rfl)
                    · -- 4: Op.load 28 (Operand.tmp 90)
                      have e90 : a'.eval (.tmp 90) = .pointer (some ⟨R, 0, none⟩) := KS_val (Deps.val hd 3 90 (by decide +kernel)) rfl
                      have c_ : w'.cell? ⟨R, 0, none⟩ = some (.slice (some ⟨b, off, none⟩) n_ cp) := ((HS.out.d.kept L6.out).kept hg).cell (j := 0) rfl
                      clear hd hk
                      exact wp_value (.slice (some ⟨b, off, none⟩) n_ cp) (by simp only [execOp, e90]; go_simp) (KS_mkv rfl rfl)
                    · -- 5: Op.move (Operand.tmp 5)
                      have e5 : a'.eval (.tmp 5) = .int .i64 (i : Int) := hk.at 5 (by decide +kernel)
                      exact wp_value _ (by simp only [execOp, e5]; rfl) (KS_mkv rfl rfl)
                    · -- 6: Op.move (Operand.tmp 5)
                      have e5 : a'.eval (.tmp 5) = .int .i64 (i : Int) := hk.at 5 (by decide +kernel)
                      exact wp_value _ (by simp only [execOp, e5]; rfl) (KS_mkv rfl rfl)
                    · -- 7: Op.slice 28 (Operand.tmp 91) none (some (Operand.tmp 92)) (s
                      have e91 : a'.eval (.tmp 91) = .slice (some ⟨b, off, none⟩) n_ cp := KS_val (Deps.val hd 4 91 (by decide +kernel)) rfl
                      have e92 : a'.eval (.tmp 92) = .int .i64 (i : Int) := KS_val (Deps.val hd 5 92 (by decide +kernel)) rfl
                      have e93 : a'.eval (.tmp 93) = .int .i64 (i : Int) := KS_val (Deps.val hd 6 93 (by decide +kernel)) rfl
                      clear hd hk
                      exact wp_value _ (by simp only [execOp, Option.map_some, Option.map_none, e91, e92, e93, hs1, Sem.run_bind, Sem.run_pure, Result.andThen_ok]) (KS_mkv rfl rfl)
                    · -- 8: Op.load 38 (Operand.tmp 3)
                      have e3 : a'.eval (.tmp 3) = .pointer (some ⟨E, 0, none⟩) := hk.at 3 (by decide +kernel)
                      have rg_ := (B6.out.kept hg).range0
                      clear hd hk
                      exact wp_value (.agg (PC p).toArray) (by simp only [execOp, e3, Instr.loadAt, Instr.sureAddr, Sem.run_bind, Sem.run_pure, Result.andThen_ok, run_loadVar_mid w' E 0 51 (PC p) _ rg_ Tryz.underlying51 rfl Tryz.size51]) (KS_mkv rfl rfl)
                    · -- 9: Op.buildSlice 28 1 #[(0, Operand.tmp 95)]
                      have e95 : a'.eval (.tmp 95) = .agg (PC p).toArray := KS_val (Deps.val hd 8 95 (by decide +kernel)) rfl
                      refine wp_grow (.slice (some ⟨w'.heap.size, 0, none⟩) 1 1) (w'.alloc (.cells (PC p).toArray 51 (0, 0))) ?_ ((Below.refl _ _).alloc (Nat.le_refl _) _) (KS_mko rfl ⟨_, rfl, rdG_one (E := PE) w' 51 p⟩)
                      have hr_ := build_row1 p w'
                      simp only [execOp, List.map_toArray, List.map_cons, List.map_nil, e95, hr_, Sem.run_bind, Sem.run_pure, Result.andThen_ok]
                    · -- 10: Op.move (Operand.tmp 0)
                      have e0 : a'.eval (.tmp 0) = .pointer (some ⟨R, 0, none⟩) := hk.at 0 (by decide +kernel)
                      exact wp_value _ (by simp only [execOp, e0]; rfl) (KS_mkv rfl rfl)
                    · -- 11: Op.nilCheck (Operand.tmp 97)
                      have e97 : a'.eval (.tmp 97) = .pointer (some ⟨R, 0, none⟩) := KS_val (Deps.val hd 10 97 (by decide +kernel)) rfl
                      clear hd hk
                      exact wp_value (.pointer (some ⟨R, 0, none⟩)) (by simp only [execOp, e97]; go_simp) (KS_mkv rfl rfl)
                    · -- 12: Op.fieldAddr 30 (Operand.tmp 98) 0
                      have e98 : a'.eval (.tmp 98) = .pointer (some ⟨R, 0, none⟩) := KS_val (Deps.val hd 11 98 (by decide +kernel)) rfl
                      clear hd hk
                      exact wp_value (.pointer (some ⟨R, 0, none⟩)) (by simp only [execOp, e98]; go_simp) (KS_mkv rfl rfl)
                    · -- 13: Op.load 28 (Operand.tmp 99)
                      have e99 : a'.eval (.tmp 99) = .pointer (some ⟨R, 0, none⟩) := KS_val (Deps.val hd 12 99 (by decide +kernel)) rfl
                      have c_ : w'.cell? ⟨R, 0, none⟩ = some (.slice (some ⟨b, off, none⟩) n_ cp) := ((HS.out.d.kept L6.out).kept hg).cell (j := 0) rfl
                      clear hd hk
                      exact wp_value (.slice (some ⟨b, off, none⟩) n_ cp) (by simp only [execOp, e99]; go_simp) (KS_mkv rfl rfl)
                    · -- 14: Op.move (Operand.tmp 5)
                      have e5 : a'.eval (.tmp 5) = .int .i64 (i : Int) := hk.at 5 (by decide +kernel)
                      exact wp_value _ (by simp only [execOp, e5]; rfl) (KS_mkv rfl rfl)
                    · -- 15: Op.slice 28 (Operand.tmp 100) (some (Operand.tmp 101)) none 
                      have e100 : a'.eval (.tmp 100) = .slice (some ⟨b, off, none⟩) n_ cp := KS_val (Deps.val hd 13 100 (by decide +kernel)) rfl
                      have e101 : a'.eval (.tmp 101) = .int .i64 (i : Int) := KS_val (Deps.val hd 14 101 (by decide +kernel)) rfl
                      clear hd hk
                      exact wp_value _ (by simp only [execOp, Option.map_some, Option.map_none, e100, e101, hs2, Sem.run_bind, Sem.run_pure, Result.andThen_ok]) (KS_mkv rfl rfl)
                    · -- 16: Op.call ( callee := Callee.builtin Builtin.append, args := #
                      have r96 := KS_of (Deps.val hd 9 96 (by decide +kernel)) rfl
                      have e102 : a'.eval (.tmp 102) = .slice a2 (n_ - i) (cp - i) := KS_val (Deps.val hd 15 102 (by decide +kernel)) rfl
                      obtain ⟨g_, eg_, hg_⟩ := r96
                      rw [eg_] at hg_
                      obtain ⟨v_, w_, hr_, h2_, h3_⟩ := run_append_rd (E := PE) (P := Tryz.prog) w' 35 35 35 51 ti tz 40 Tryz.underlying35 hti hz0 hz1 hz2 hz3 g_ 1 _ hg_ (.slice a2 (n_ - i) (cp - i)) (L.drop i) ((hs3 _ _ (((HS.out.own.rd).kept L6.out).kept hg)).src 35 51 Tryz.underlying35) (by rw [List.length_drop, HN.out]; simp only [maxLen]; omega) (by rw [List.length_drop, HN.out]; omega)
                      refine wp_grow v_ w_ ?_ h3_ (KS_mko rfl h2_)
                      simp only [execOp, resolve, invoke, builtin, Sem.run_bind, Sem.run_pure, Result.andThen_ok, List.map_toArray, List.map_cons, List.map_nil, eg_, e102, hr_]
                    · -- 17: Op.call ( callee := Callee.builtin Builtin.append, args := #
                      have e94 : a'.eval (.tmp 94) = .slice (some ⟨b, off, none⟩) i i := KS_val (Deps.val hd 7 94 (by decide +kernel)) rfl
                      have r103 := KS_of (Deps.val hd 16 103 (by decide +kernel)) rfl
                      have hlr_ : ([p] ++ L.drop i).length = 1 + (n_ - i) := by rw [List.length_append, List.length_drop, HN.out]; rfl
                      obtain ⟨v_, w_, hr_, h2_, h3_, -⟩ := run_append_full (E := PE) (P := Tryz.prog) w' w.heap.size 35 35 35 51 ti tz 40 Tryz.underlying35 hti hz0 hz1 hz2 hz3 (some ⟨b, off, none⟩) i _ (hs4 _ _ (((HS.out.own.rd).kept L6.out).kept hg)) (a'.eval (.tmp 103)) ([p] ++ L.drop i) (r103.src 35 51 Tryz.underlying35) (by rw [hlr_]; omega) (by rw [hlr_]; simp only [maxLen]; omega) (by rw [hlr_]; omega) (Nat.le_trans L6.out.size hg.size)
                      refine wp_grow v_ w_ ?_ h3_ (KS_mko rfl h2_)
                      simp only [execOp, resolve, invoke, builtin, Sem.run_bind, Sem.run_pure, Result.andThen_ok, List.map_toArray, List.map_cons, List.map_nil, e94, hr_]
                    · -- 18: Op.nilCheck (Operand.tmp 87)
                      have e87 : a'.eval (.tmp 87) = .pointer (some ⟨R, 0, none⟩) := KS_val (Deps.val hd 0 87 (by decide +kernel)) rfl
                      clear hd hk
                      exact wp_value (.pointer (some ⟨R, 0, none⟩)) (by simp only [execOp, e87]; go_simp) (KS_mkv rfl rfl)
                    · -- 19: Op.fieldAddr 30 (Operand.tmp 105) 0
                      have e105 : a'.eval (.tmp 105) = .pointer (some ⟨R, 0, none⟩) := KS_val (Deps.val hd 18 105 (by decide +kernel)) rfl
                      clear hd hk
                      exact wp_value (.pointer (some ⟨R, 0, none⟩)) (by simp only [execOp, e105]; go_simp) (KS_mkv rfl rfl)
                  · intro a' w7 hsz hdf hk hall hg
                    have e87 : a'.eval (.tmp 87) = .pointer (some ⟨R, 0, none⟩) := KS_val (hall 0 _ 87 (by decide) rfl rfl) rfl
                    have e88 : a'.eval (.tmp 88) = .pointer (some ⟨R, 0, none⟩) := KS_val (hall 1 _ 88 (by decide) rfl rfl) rfl
                    have e89 : a'.eval (.tmp 89) = .pointer (some ⟨R, 0, none⟩) := KS_val (hall 2 _ 89 (by decide) rfl rfl) rfl
                    have e90 : a'.eval (.tmp 90) = .pointer (some ⟨R, 0, none⟩) := KS_val (hall 3 _ 90 (by decide) rfl rfl) rfl
                    have e91 : a'.eval (.tmp 91) = .slice (some ⟨b, off, none⟩) n_ cp := KS_val (hall 4 _ 91 (by decide) rfl rfl) rfl
                    have e92 : a'.eval (.tmp 92) = .int .i64 (i : Int) := KS_val (hall 5 _ 92 (by decide) rfl rfl) rfl
                    have e93 : a'.eval (.tmp 93) = .int .i64 (i : Int) := KS_val (hall 6 _ 93 (by decide) rfl rfl) rfl
                    have e94 : a'.eval (.tmp 94) = .slice (some ⟨b, off, none⟩) i i := KS_val (hall 7 _ 94 (by decide) rfl rfl) rfl
                    have e95 : a'.eval (.tmp 95) = .agg (PC p).toArray := KS_val (hall 8 _ 95 (by decide) rfl rfl) rfl
                    have r96 := KS_of (hall 9 _ 96 (by decide) rfl rfl) rfl
                    obtain ⟨x96, e96⟩ : ∃ v, a'.eval (.tmp 96) = v := ⟨_, rfl⟩
                    rw [e96] at r96
                    have e97 : a'.eval (.tmp 97) = .pointer (some ⟨R, 0, none⟩) := KS_val (hall 10 _ 97 (by decide) rfl rfl) rfl
                    have e98 : a'.eval (.tmp 98) = .pointer (some ⟨R, 0, none⟩) := KS_val (hall 11 _ 98 (by decide) rfl rfl) rfl
                    have e99 : a'.eval (.tmp 99) = .pointer (some ⟨R, 0, none⟩) := KS_val (hall 12 _ 99 (by decide) rfl rfl) rfl
                    have e100 : a'.eval (.tmp 100) = .slice (some ⟨b, off, none⟩) n_ cp := KS_val (hall 13 _ 100 (by decide) rfl rfl) rfl
                    have e101 : a'.eval (.tmp 101) = .int .i64 (i : Int) := KS_val (hall 14 _ 101 (by decide) rfl rfl) rfl
                    have e102 : a'.eval (.tmp 102) = .slice a2 (n_ - i) (cp - i) := KS_val (hall 15 _ 102 (by decide) rfl rfl) rfl
                    have r103 := KS_of (hall 16 _ 103 (by decide) rfl rfl) rfl
                    obtain ⟨x103, e103⟩ : ∃ v, a'.eval (.tmp 103) = v := ⟨_, rfl⟩
                    rw [e103] at r103
                    have r104 := KS_of (hall 17 _ 104 (by decide) rfl rfl) rfl
                    obtain ⟨x104, e104⟩ : ∃ v, a'.eval (.tmp 104) = v := ⟨_, rfl⟩
                    rw [e104] at r104
                    have e105 : a'.eval (.tmp 105) = .pointer (some ⟨R, 0, none⟩) := KS_val (hall 18 _ 105 (by decide) rfl rfl) rfl
                    have e106 : a'.eval (.tmp 106) = .pointer (some ⟨R, 0, none⟩) := KS_val (hall 19 _ 106 (by decide) rfl rfl) rfl
                    have D7 := hide ((HS.out.d.kept L6.out).kept hg)
                    have O7 := hide r104
                    have G7 := hide hg
                    have cR_ := D7.out.cell (j := 0) rfl
                    have fR_ := D7.out.frozen 0
                    obtain ⟨xa, xn, xc, hx_⟩ : ∃ a n c, x104 = .slice a n c := by obtain ⟨xa, xc, h⟩ := r104.rd.slice; exact ⟨_, _, _, h⟩
                    subst hx_
                    refine ⟨rfl, ?_⟩
                    unfold Oper.wp execOp
                    simp only [Sem.run_bind, Sem.run_pure, e106, e104]
                    go_simp
                    show Exit.then _ _ Exit.normal _ _
                    have ha := act_puts 107 rfl hsz hdf hk [87, 88, 89, 90, 91, 92, 93, 94, 95, 96, 97, 98, 99, 100, 101, 102, 103, 104, 105, 106] (by decide +kernel)
                    simp only [puts, List.foldl_cons, List.foldl_nil, e87, e88, e89, e90, e91, e92, e93, e94, e95, e96, e97, e98, e99, e100, e101, e102, e103, e104, e105, e106] at ha
                    simp only [Act.put, List.setIfInBounds_toArray, List.set_cons_succ, List.set_cons_zero] at ha
                    clear hall hk hsz hdf hg r104 r96 r103 cR_ fR_ hs1 hs2 hs3 hs4 e87 e88 e89 e90 e91 e92 e93 e94 e95 e96 e97 e98 e99 e100 e101 e102 e103 e104 e105 e106
                    subst ha
                    have HF : Hid (RBf (w7.setCell ⟨R, 0, none⟩ (.slice xa xn xc)) R (.slice xa xn xc) (wrB L p) ∧ Chg (fun b => b = R) w (w7.setCell ⟨R, 0, none⟩ (.slice xa xn xc))) := (show _ ∧ _ from by
                      have c9 : Chg (fun b => b = R) w7 (w7.setCell ⟨R, 0, none⟩ (.slice xa xn xc)) := Chg.setCell (F := fun b => b = R) _ rfl _ _
                      refine ⟨⟨D7.out.set 0 _, ?_⟩, (Chg.of_below (L6.out.trans (G7.out.mono L6.out.size))).trans c9⟩
                      rw [HW0.out HE9.out, insB_new HSS.out HI0.out HNG.out]
                      exact (O7.out.mono (Nat.zero_le _)).chg c9 (fun b hb => own_ne O7.out D7.out hb))
                    clear D7 O7 G7
                    obtain ⟨w8, hw8⟩ : ∃ x, x = w7.setCell ⟨R, 0, none⟩ (.slice xa xn xc) := ⟨_, rfl⟩
                    rw [← hw8] at HF ⊢
                    clear hw8
                    go_wp2_with fail
                    go_ret
                    exact ⟨by rw [HE9.out]; rfl, _, HF.out.1, HF.out.2⟩
    · obtain rfl : i = i0 := by omega
      have hin : i = n_ := by omega
      have q2 : decide ((i : Int) < (n_ : Int)) = false := by simp; omega
      go_upto_region 2 with fail
      refine wp_region_quiet_below Tryz.mixed (by kernel_rfl) ?_
      repeat (go_big_quiet_step (fail))
      refine wpQuiet_nil ?_
      intro w5 hw5
      have D5 : Hid (Below wr.heap.size wr w5) := (show Below _ _ _ by obtain ⟨⟨dq, osq⟩, rfl⟩ := hw5; exact below_regrown wr dq osq)
      have L5 : Hid (Below w.heap.size w w5) := LR.out.trans (D5.out.mono LR.out.size)
      have B5 := hide (BR.out.kept D5.out)
      clear hw5 k0 kE
      have c0 := B5.out.key
      have c1 := B5.out.val
      by_cases h1 : ks < 1
      · have q1 : decide ((ks : Int) < 1) = true := by simp; omega
        have HE9 : Hid (wrE L p = 2) := (show _ = _ by unfold wrE; rw [HKS.out, if_pos (.inl h1)])
        go_wp2_with fail
        go_ret
        exact ⟨by rw [HE9.out]; rfl, _, by rw [HW.out _ HE9.out (by decide)]; exact HS.out.kept L5.out, Chg.of_below L5.out⟩
      · have q1 : decide ((ks : Int) < 1) = false := by simp; omega
        by_cases h2 : 64 < ks
        · have q7 : decide (64 < (ks : Int)) = true := by simp; omega
          have HE9 : Hid (wrE L p = 2) := (show _ = _ by unfold wrE; rw [HKS.out, if_pos (.inr h2)])
          go_wp2_with fail
          go_ret
          exact ⟨by rw [HE9.out]; rfl, _, by rw [HW.out _ HE9.out (by decide)]; exact HS.out.kept L5.out, Chg.of_below L5.out⟩
        · have q7 : decide (64 < (ks : Int)) = false := by simp; omega
          by_cases h3 : 256 < vs
          · have q8 : decide (256 < (vs : Int)) = true := by simp; omega
            have HE9 : Hid (wrE L p = 12) := (show _ = _ by unfold wrE; rw [HKS.out, HVS.out, if_neg (by omega), if_pos h3])
            go_wp2_with fail
            go_ret
            exact ⟨by rw [HE9.out]; rfl, _, by rw [HW.out _ HE9.out (by decide)]; exact HS.out.kept L5.out, Chg.of_below L5.out⟩
          · have q8 : decide (256 < (vs : Int)) = false := by simp; omega
            have k0 := cell_regrown ((HS.out.d.kept L5.out).cell (j := 0) rfl)
            have kE := cell_regrown B5.out.key
            go_upto_region 8 with fail
            clear c0 c1
            have HNG : Hid (getB L p.1 = none) := (show _ = _ from getB_end HSS.out (by rw [HI0.out, HN.out]; exact hin))
            refine wp_region_quiet_below Tryz.mixed (by kernel_rfl) ?_
            repeat (go_big_quiet_step (fail))
            refine wpQuiet_nil ?_
            intro w6 hw5
            have D6 : Hid (Below w5.heap.size w5 w6) := (show Below _ _ _ by obtain ⟨⟨dq, osq⟩, rfl⟩ := hw5; exact below_regrown w5 dq osq)
            have L6 : Hid (Below w.heap.size w w6) := L5.out.trans (D6.out.mono L5.out.size)
            have B6 := hide (B5.out.kept D6.out)
            clear hw5 k0 kE
            by_cases h64 : 64 ≤ n_
            · have HE9 : Hid (wrE L p = 13) := (show _ = _ by unfold wrE; rw [HKS.out, HVS.out, if_neg (by omega), if_neg h3, if_pos ⟨by rw [HNG.out]; rfl, by rw [HN.out]; omega⟩])
              have q9 : decide (64 ≤ (n_ : Int)) = true := by simp; omega
              have cR := (HS.out.d.kept L6.out).cell (j := 0) rfl
              go_wp2_with fail
              go_ret
              exact ⟨by rw [HE9.out]; rfl, _, by rw [HW.out _ HE9.out (by decide)]; exact HS.out.kept L6.out, Chg.of_below L6.out⟩
            · have HE9 : Hid (wrE L p = 0) := (show _ = _ by unfold wrE; rw [HKS.out, HVS.out, if_neg (by omega), if_neg h3, if_neg]; rintro ⟨-, h9⟩; rw [HN.out] at h9; omega)
              have q9 : decide (64 ≤ (n_ : Int)) = false := by simp; omega
              have cR := (HS.out.d.kept L6.out).cell (j := 0) rfl
              go_upto_region 15 with fail
              clear cR
              obtain ⟨a2, hs2, -, hs3⟩ := slice_G (E := PE) (P := Tryz.prog) Tryz.underlying35 Tryz.size51 (a) n_ cp i (by omega) hcp
              obtain ⟨hs1, hs4⟩ := slice_G_cap (E := PE) (P := Tryz.prog) Tryz.underlying35 Tryz.size51 (a) n_ cp i (by omega) hcp
              obtain ⟨ti, tz, hti, hz0, hz1, hz2, hz3⟩ := infoP9
              refine wp_region_tails Tryz.mixed (KS (fun i_ => match i_ with | 0 | 1 | 2 | 3 | 10 | 11 | 12 | 18 | 19 => .val (.pointer (some ⟨R, 0, none⟩)) | 4 | 13 => .val (.slice a n_ cp) | 5 | 6 | 14 => .val (.int .i64 (i : Int)) | 7 => .val (.slice (a) i i) | 8 => .val (.agg (PC p).toArray) | 9 => .of (fun W x => ∃ g, x = .slice (some g) 1 1 ∧ RdG PE W x [p]) (fun _ _ _ hg h => by obtain ⟨g, h1, h2⟩ := h; exact ⟨g, h1, h2.kept hg⟩) | 15 => .val (.slice a2 (n_ - i) (cp - i)) | 16 => .of (fun W x => RdG PE W x ([p] ++ L.drop i)) (fun _ _ _ hg h => RdG.kept h hg) | 17 => .of (fun W x => OwnG PE W w.heap.size 51 x (L.take i ++ ([p] ++ L.drop i))) (fun _ _ _ hg h => OwnG.kept h hg) | _ => .free)) 107 rfl (by decide +kernel) 20 (by decide) (by decide +kernel) (KS_mono _) ?_ ?_
              · refine AllFrom.cons ⟨rfl, fun a' w' hg hk hd Q => ?_⟩ (AllFrom.cons ⟨rfl, fun a' w' hg hk hd Q => ?_⟩ (AllFrom.cons ⟨rfl, fun a' w' hg hk hd Q => ?_⟩ (AllFrom.cons ⟨rfl, fun a' w' hg hk hd Q => ?_⟩ (AllFrom.cons ⟨rfl, fun a' w' hg hk hd Q => ?_⟩ (AllFrom.cons ⟨rfl, fun a' w' hg hk hd Q => ?_⟩ (AllFrom.cons ⟨rfl, fun a' w' hg hk hd Q => ?_⟩ (AllFrom.cons ⟨rfl, fun a' w' hg hk hd Q => ?_⟩ (AllFrom.cons ⟨rfl, fun a' w' hg hk hd Q => ?_⟩ (AllFrom.cons ⟨rfl, fun a' w' hg hk hd Q => ?_⟩ (AllFrom.cons ⟨rfl, fun a' w' hg hk hd Q => ?_⟩ (AllFrom.cons ⟨rfl, fun a' w' hg hk hd Q => ?_⟩ (AllFrom.cons ⟨rfl, fun a' w' hg hk hd Q => ?_⟩ (AllFrom.cons ⟨rfl, fun a' w' hg hk hd Q => ?_⟩ (AllFrom.cons ⟨rfl, fun a' w' hg hk hd Q => ?_⟩ (AllFrom.cons ⟨rfl, fun a' w' hg hk hd Q => ?_⟩ (AllFrom.cons ⟨rfl, fun a' w' hg hk hd Q => ?_⟩ (AllFrom.cons ⟨rfl, fun a' w' hg hk hd Q => ?_⟩ (AllFrom.cons ⟨rfl, fun a' w' hg hk hd Q => ?_⟩ (AllFrom.cons ⟨rfl, fun a' w' hg hk hd Q => ?_⟩ AllFrom.nil)))))))))))))))))))
                · -- 0: Op.move (Operand.tmp 0)
                  have e0 : a'.eval (.tmp 0) = .pointer (some ⟨R, 0, none⟩) := hk.at 0 (by decide +kernel)
                  exact wp_value _ (by simp only [execOp, e0]; rfl) (KS_mkv rfl rfl)
                · -- 1: Op.move (Operand.tmp 0)
                  have e0 : a'.eval (.tmp 0) = .pointer (some ⟨R, 0, none⟩) := hk.at 0 (by decide +kernel)
                  exact wp_value _ (by simp only [execOp, e0]; rfl) (KS_mkv rfl rfl)
                · -- 2: Op.nilCheck (Operand.tmp 88)
                  have e88 : a'.eval (.tmp 88) = .pointer (some ⟨R, 0, none⟩) := KS_val (Deps.val hd 1 88 (by decide +kernel)) rfl
                  clear hd hk
                  exact wp_value (.pointer (some ⟨R, 0, none⟩)) (by simp only [execOp, e88]; go_simp) (KS_mkv rfl rfl)
                · -- 3: Op.fieldAddr 30 (Operand.tmp 89) 0
                  have e89 : a'.eval (.tmp 89) = .pointer (some ⟨R, 0, none⟩) := KS_val (Deps.val hd 2 89 (by decide +kernel)) rfl
                  clear hd hk
                  exact wp_value (.pointer (some ⟨R, 0, none⟩)) (by simp only [execOp, e89]; go_simp) (KS_mkv rfl rfl)
                · -- 4: Op.load 28 (Operand.tmp 90)
                  have e90 : a'.eval (.tmp 90) = .pointer (some ⟨R, 0, none⟩) := KS_val (Deps.val hd 3 90 (by decide +kernel)) rfl
                  have c_ : w'.cell? ⟨R, 0, none⟩ = some (.slice a n_ cp) := ((HS.out.d.kept L6.out).kept hg).cell (j := 0) rfl
                  clear hd hk
                  exact wp_value (.slice a n_ cp) (by simp only [execOp, e90]; go_simp) (KS_mkv rfl rfl)
                · -- 5: Op.move (Operand.tmp 5)
                  have e5 : a'.eval (.tmp 5) = .int .i64 (i : Int) := hk.at 5 (by decide +kernel)
                  exact wp_value _ (by simp only [execOp, e5]; rfl) (KS_mkv rfl rfl)
                · -- 6: Op.move (Operand.tmp 5)
                  have e5 : a'.eval (.tmp 5) = .int .i64 (i : Int) := hk.at 5 (by decide +kernel)
                  exact wp_value _ (by simp only [execOp, e5]; rfl) (KS_mkv rfl rfl)
                · -- 7: Op.slice 28 (Operand.tmp 91) none (some (Operand.tmp 92)) (s
                  have e91 : a'.eval (.tmp 91) = .slice a n_ cp := KS_val (Deps.val hd 4 91 (by decide +kernel)) rfl
                  have e92 : a'.eval (.tmp 92) = .int .i64 (i : Int) := KS_val (Deps.val hd 5 92 (by decide +kernel)) rfl
                  have e93 : a'.eval (.tmp 93) = .int .i64 (i : Int) := KS_val (Deps.val hd 6 93 (by decide +kernel)) rfl
                  clear hd hk
                  exact wp_value _ (by simp only [execOp, Option.map_some, Option.map_none, e91, e92, e93, hs1, Sem.run_bind, Sem.run_pure, Result.andThen_ok]) (KS_mkv rfl rfl)
                · -- 8: Op.load 38 (Operand.tmp 3)
                  have e3 : a'.eval (.tmp 3) = .pointer (some ⟨E, 0, none⟩) := hk.at 3 (by decide +kernel)
                  have rg_ := (B6.out.kept hg).range0
                  clear hd hk
                  exact wp_value (.agg (PC p).toArray) (by simp only [execOp, e3, Instr.loadAt, Instr.sureAddr, Sem.run_bind, Sem.run_pure, Result.andThen_ok, run_loadVar_mid w' E 0 51 (PC p) _ rg_ Tryz.underlying51 rfl Tryz.size51]) (KS_mkv rfl rfl)
                · -- 9: Op.buildSlice 28 1 #[(0, Operand.tmp 95)]
                  have e95 : a'.eval (.tmp 95) = .agg (PC p).toArray := KS_val (Deps.val hd 8 95 (by decide +kernel)) rfl
                  refine wp_grow (.slice (some ⟨w'.heap.size, 0, none⟩) 1 1) (w'.alloc (.cells (PC p).toArray 51 (0, 0))) ?_ ((Below.refl _ _).alloc (Nat.le_refl _) _) (KS_mko rfl ⟨_, rfl, rdG_one (E := PE) w' 51 p⟩)
                  have hr_ := build_row1 p w'
                  simp only [execOp, List.map_toArray, List.map_cons, List.map_nil, e95, hr_, Sem.run_bind, Sem.run_pure, Result.andThen_ok]
                · -- 10: Op.move (Operand.tmp 0)
                  have e0 : a'.eval (.tmp 0) = .pointer (some ⟨R, 0, none⟩) := hk.at 0 (by decide +kernel)
                  exact wp_value _ (by simp only [execOp, e0]; rfl) (KS_mkv rfl rfl)
                · -- 11: Op.nilCheck (Operand.tmp 97)
                  have e97 : a'.eval (.tmp 97) = .pointer (some ⟨R, 0, none⟩) := KS_val (Deps.val hd 10 97 (by decide +kernel)) rfl
                  clear hd hk
                  exact wp_value (.pointer (some ⟨R, 0, none⟩)) (by simp only [execOp, e97]; go_simp) (KS_mkv rfl rfl)
                · -- 12: Op.fieldAddr 30 (Operand.tmp 98) 0
                  have e98 : a'.eval (.tmp 98) = .pointer (some ⟨R, 0, none⟩) := KS_val (Deps.val hd 11 98 (by decide +kernel)) rfl
                  clear hd hk
                  exact wp_value (.pointer (some ⟨R, 0, none⟩)) (by simp only [execOp, e98]; go_simp) (KS_mkv rfl rfl)
                · -- 13: Op.load 28 (Operand.tmp 99)
                  have e99 : a'.eval (.tmp 99) = .pointer (some ⟨R, 0, none⟩) := KS_val (Deps.val hd 12 99 (by decide +kernel)) rfl
                  have c_ : w'.cell? ⟨R, 0, none⟩ = some (.slice a n_ cp) := ((HS.out.d.kept L6.out).kept hg).cell (j := 0) rfl
                  clear hd hk
                  exact wp_value (.slice a n_ cp) (by simp only [execOp, e99]; go_simp) (KS_mkv rfl rfl)
                · -- 14: Op.move (Operand.tmp 5)
                  have e5 : a'.eval (.tmp 5) = .int .i64 (i : Int) := hk.at 5 (by decide +kernel)
                  exact wp_value _ (by simp only [execOp, e5]; rfl) (KS_mkv rfl rfl)
                · -- 15: Op.slice 28 (Operand.tmp 100) (some (Operand.tmp 101)) none 
                  have e100 : a'.eval (.tmp 100) = .slice a n_ cp := KS_val (Deps.val hd 13 100 (by decide +kernel)) rfl
                  have e101 : a'.eval (.tmp 101) = .int .i64 (i : Int) := KS_val (Deps.val hd 14 101 (by decide +kernel)) rfl
                  clear hd hk
                  exact wp_value _ (by simp only [execOp, Option.map_some, Option.map_none, e100, e101, hs2, Sem.run_bind, Sem.run_pure, Result.andThen_ok]) (KS_mkv rfl rfl)
                · -- 16: Op.call ( callee := Callee.builtin Builtin.append, args := #
                  have r96 := KS_of (Deps.val hd 9 96 (by decide +kernel)) rfl
                  have e102 : a'.eval (.tmp 102) = .slice a2 (n_ - i) (cp - i) := KS_val (Deps.val hd 15 102 (by decide +kernel)) rfl
                  obtain ⟨g_, eg_, hg_⟩ := r96
                  rw [eg_] at hg_
                  obtain ⟨v_, w_, hr_, h2_, h3_⟩ := run_append_rd (E := PE) (P := Tryz.prog) w' 35 35 35 51 ti tz 40 Tryz.underlying35 hti hz0 hz1 hz2 hz3 g_ 1 _ hg_ (.slice a2 (n_ - i) (cp - i)) (L.drop i) ((hs3 _ _ (((HS.out.own.rd).kept L6.out).kept hg)).src 35 51 Tryz.underlying35) (by rw [List.length_drop, HN.out]; simp only [maxLen]; omega) (by rw [List.length_drop, HN.out]; omega)
                  refine wp_grow v_ w_ ?_ h3_ (KS_mko rfl h2_)
                  simp only [execOp, resolve, invoke, builtin, Sem.run_bind, Sem.run_pure, Result.andThen_ok, List.map_toArray, List.map_cons, List.map_nil, eg_, e102, hr_]
                · -- 17: Op.call ( callee := Callee.builtin Builtin.append, args := #
                  have e94 : a'.eval (.tmp 94) = .slice (a) i i := KS_val (Deps.val hd 7 94 (by decide +kernel)) rfl
                  have r103 := KS_of (Deps.val hd 16 103 (by decide +kernel)) rfl
                  have hlr_ : ([p] ++ L.drop i).length = 1 + (n_ - i) := by rw [List.length_append, List.length_drop, HN.out]; rfl
                  obtain ⟨v_, w_, hr_, h2_, h3_, -⟩ := run_append_full (E := PE) (P := Tryz.prog) w' w.heap.size 35 35 35 51 ti tz 40 Tryz.underlying35 hti hz0 hz1 hz2 hz3 (a) i _ (hs4 _ _ (((HS.out.own.rd).kept L6.out).kept hg)) (a'.eval (.tmp 103)) ([p] ++ L.drop i) (r103.src 35 51 Tryz.underlying35) (by rw [hlr_]; omega) (by rw [hlr_]; simp only [maxLen]; omega) (by rw [hlr_]; omega) (Nat.le_trans L6.out.size hg.size)
                  refine wp_grow v_ w_ ?_ h3_ (KS_mko rfl h2_)
                  simp only [execOp, resolve, invoke, builtin, Sem.run_bind, Sem.run_pure, Result.andThen_ok, List.map_toArray, List.map_cons, List.map_nil, e94, hr_]
                · -- 18: Op.nilCheck (Operand.tmp 87)
                  have e87 : a'.eval (.tmp 87) = .pointer (some ⟨R, 0, none⟩) := KS_val (Deps.val hd 0 87 (by decide +kernel)) rfl
                  clear hd hk
                  exact wp_value (.pointer (some ⟨R, 0, none⟩)) (by simp only [execOp, e87]; go_simp) (KS_mkv rfl rfl)
                · -- 19: Op.fieldAddr 30 (Operand.tmp 105) 0
                  have e105 : a'.eval (.tmp 105) = .pointer (some ⟨R, 0, none⟩) := KS_val (Deps.val hd 18 105 (by decide +kernel)) rfl
                  clear hd hk
                  exact wp_value (.pointer (some ⟨R, 0, none⟩)) (by simp only [execOp, e105]; go_simp) (KS_mkv rfl rfl)
              · intro a' w7 hsz hdf hk hall hg
                have e87 : a'.eval (.tmp 87) = .pointer (some ⟨R, 0, none⟩) := KS_val (hall 0 _ 87 (by decide) rfl rfl) rfl
                have e88 : a'.eval (.tmp 88) = .pointer (some ⟨R, 0, none⟩) := KS_val (hall 1 _ 88 (by decide) rfl rfl) rfl
                have e89 : a'.eval (.tmp 89) = .pointer (some ⟨R, 0, none⟩) := KS_val (hall 2 _ 89 (by decide) rfl rfl) rfl
                have e90 : a'.eval (.tmp 90) = .pointer (some ⟨R, 0, none⟩) := KS_val (hall 3 _ 90 (by decide) rfl rfl) rfl
                have e91 : a'.eval (.tmp 91) = .slice a n_ cp := KS_val (hall 4 _ 91 (by decide) rfl rfl) rfl
                have e92 : a'.eval (.tmp 92) = .int .i64 (i : Int) := KS_val (hall 5 _ 92 (by decide) rfl rfl) rfl
                have e93 : a'.eval (.tmp 93) = .int .i64 (i : Int) := KS_val (hall 6 _ 93 (by decide) rfl rfl) rfl
                have e94 : a'.eval (.tmp 94) = .slice (a) i i := KS_val (hall 7 _ 94 (by decide) rfl rfl) rfl
                have e95 : a'.eval (.tmp 95) = .agg (PC p).toArray := KS_val (hall 8 _ 95 (by decide) rfl rfl) rfl
                have r96 := KS_of (hall 9 _ 96 (by decide) rfl rfl) rfl
                obtain ⟨x96, e96⟩ : ∃ v, a'.eval (.tmp 96) = v := ⟨_, rfl⟩
                rw [e96] at r96
                have e97 : a'.eval (.tmp 97) = .pointer (some ⟨R, 0, none⟩) := KS_val (hall 10 _ 97 (by decide) rfl rfl) rfl
                have e98 : a'.eval (.tmp 98) = .pointer (some ⟨R, 0, none⟩) := KS_val (hall 11 _ 98 (by decide) rfl rfl) rfl
                have e99 : a'.eval (.tmp 99) = .pointer (some ⟨R, 0, none⟩) := KS_val (hall 12 _ 99 (by decide) rfl rfl) rfl
                have e100 : a'.eval (.tmp 100) = .slice a n_ cp := KS_val (hall 13 _ 100 (by decide) rfl rfl) rfl
                have e101 : a'.eval (.tmp 101) = .int .i64 (i : Int) := KS_val (hall 14 _ 101 (by decide) rfl rfl) rfl
                have e102 : a'.eval (.tmp 102) = .slice a2 (n_ - i) (cp - i) := KS_val (hall 15 _ 102 (by decide) rfl rfl) rfl
                have r103 := KS_of (hall 16 _ 103 (by decide) rfl rfl) rfl
                obtain ⟨x103, e103⟩ : ∃ v, a'.eval (.tmp 103) = v := ⟨_, rfl⟩
                rw [e103] at r103
                have r104 := KS_of (hall 17 _ 104 (by decide) rfl rfl) rfl
                obtain ⟨x104, e104⟩ : ∃ v, a'.eval (.tmp 104) = v := ⟨_, rfl⟩
                rw [e104] at r104
                have e105 : a'.eval (.tmp 105) = .pointer (some ⟨R, 0, none⟩) := KS_val (hall 18 _ 105 (by decide) rfl rfl) rfl
                have e106 : a'.eval (.tmp 106) = .pointer (some ⟨R, 0, none⟩) := KS_val (hall 19 _ 106 (by decide) rfl rfl) rfl
                have D7 := hide ((HS.out.d.kept L6.out).kept hg)
                have O7 := hide r104
                have G7 := hide hg
                have cR_ := D7.out.cell (j := 0) rfl
                have fR_ := D7.out.frozen 0
                obtain ⟨xa, xn, xc, hx_⟩ : ∃ a n c, x104 = .slice a n c := by obtain ⟨xa, xc, h⟩ := r104.rd.slice; exact ⟨_, _, _, h⟩
                subst hx_
                refine ⟨rfl, ?_⟩
                unfold Oper.wp execOp
                simp only [Sem.run_bind, Sem.run_pure, e106, e104]
                go_simp
                show Exit.then _ _ Exit.normal _ _
                have ha := act_puts 107 rfl hsz hdf hk [87, 88, 89, 90, 91, 92, 93, 94, 95, 96, 97, 98, 99, 100, 101, 102, 103, 104, 105, 106] (by decide +kernel)
                simp only [puts, List.foldl_cons, List.foldl_nil, e87, e88, e89, e90, e91, e92, e93, e94, e95, e96, e97, e98, e99, e100, e101, e102, e103, e104, e105, e106] at ha
                simp only [Act.put, List.setIfInBounds_toArray, List.set_cons_succ, List.set_cons_zero] at ha
                clear hall hk hsz hdf hg r104 r96 r103 cR_ fR_ hs1 hs2 hs3 hs4 e87 e88 e89 e90 e91 e92 e93 e94 e95 e96 e97 e98 e99 e100 e101 e102 e103 e104 e105 e106
                subst ha
                have HF : Hid (RBf (w7.setCell ⟨R, 0, none⟩ (.slice xa xn xc)) R (.slice xa xn xc) (wrB L p) ∧ Chg (fun b => b = R) w (w7.setCell ⟨R, 0, none⟩ (.slice xa xn xc))) := (show _ ∧ _ from by
                  have c9 : Chg (fun b => b = R) w7 (w7.setCell ⟨R, 0, none⟩ (.slice xa xn xc)) := Chg.setCell (F := fun b => b = R) _ rfl _ _
                  refine ⟨⟨D7.out.set 0 _, ?_⟩, (Chg.of_below (L6.out.trans (G7.out.mono L6.out.size))).trans c9⟩
                  rw [HW0.out HE9.out, insB_new HSS.out HI0.out HNG.out]
                  exact (O7.out.mono (Nat.zero_le _)).chg c9 (fun b hb => own_ne O7.out D7.out hb))
                clear D7 O7 G7
                obtain ⟨w8, hw8⟩ : ∃ x, x = w7.setCell ⟨R, 0, none⟩ (.slice xa xn xc) := ⟨_, rfl⟩
                rw [← hw8] at HF ⊢
                clear hw8
                go_wp2_with fail
                go_ret
                exact ⟨by rw [HE9.out]; rfl, _, HF.out.1, HF.out.2⟩
end Go.Proofs.YtcicekggeampcaaGreat

/-
  The document's Buffer: Put, Drop, Get, Over.
-/
namespace Go.Proofs.YtcicekggeampcaaGreat
open Go.RowKit
set_option maxRecDepth 100000 in
theorem rPut_any {w : World} {R : Nat} {vr : Value} {L : List Pr} (h : RBf w R vr L) (hs : Bs L) (hl64 : L.length ≤ 64) (k v : ByteArray) : Calls Tryz.prog 52 #[PT R, .string k, .string v] w fun e w' => e = .returned (.int .i64 (wrE L (k, v, false))) ∧ ∃ vr', RBf w' R vr' (wrB L (k, v, false)) ∧ Chg (fun b => b = R) w w' := by
  have hz := Zpair
  have CW := hide (rput_any h hs hl64 (k, v, false))
  obtain ⟨r, HR⟩ : ∃ r, Hid (wrE L (k, v, false) = r) := ⟨_, rfl⟩
  rw [HR.out] at CW ⊢
  go_enter Tryz.func52, Tryz.ntmps52
  go_wp2_with fail
  refine CW.out.mono ?_
  rintro e w2 ⟨rfl, vr', h2, c2⟩
  have H2 := hide h2
  have C2 := hide c2
  clear h2 c2
  go_wp2_with fail
  go_ret
  exact ⟨rfl, _, H2.out, C2.out⟩
set_option maxRecDepth 100000 in
theorem rDrop_any {w : World} {R : Nat} {vr : Value} {L : List Pr} (h : RBf w R vr L) (hs : Bs L) (hl64 : L.length ≤ 64) (k : ByteArray) : Calls Tryz.prog 54 #[PT R, .string k] w fun e w' => e = .returned (.int .i64 (wrE L (k, em, true))) ∧ ∃ vr', RBf w' R vr' (wrB L (k, em, true)) ∧ Chg (fun b => b = R) w w' := by
  have hz := Zpair
  have CW := hide (rput_any h hs hl64 (k, em, true))
  obtain ⟨r, HR⟩ : ∃ r, Hid (wrE L (k, em, true) = r) := ⟨_, rfl⟩
  rw [HR.out] at CW ⊢
  go_enter Tryz.func54, Tryz.ntmps54
  go_wp2_with fail
  refine CW.out.mono ?_
  rintro e w2 ⟨rfl, vr', h2, c2⟩
  have H2 := hide h2
  have C2 := hide c2
  clear h2 c2
  go_wp2_with fail
  go_ret
  exact ⟨rfl, _, H2.out, C2.out⟩
theorem getB_drop {L : List Pr} {k : ByteArray} {i : Nat} (hi : i < L.length) : getB (L.drop i) k = if L[i].1 = k then some L[i] else getB (L.drop (i + 1)) k := by
  rw [List.drop_eq_getElem_cons hi]
  rfl
set_option maxHeartbeats 2000000 in
set_option maxRecDepth 100000 in
theorem rGet_any {w : World} {R : Nat} {vr : Value} {L : List Pr} (h : RBf w R vr L) (hl64 : L.length ≤ 64) (k : ByteArray) : Calls Tryz.prog 50 #[PT R, .string k] w fun e w' => e = .returned (.tuple #[.agg (PC ((getB L k).getD zp)).toArray, .bool (getB L k).isSome]) ∧ Below w.heap.size w w' := by
  have hz := Zpair
  have H := hide h
  obtain ⟨a, cp, rfl⟩ := h.own.rd.slice
  clear h
  obtain ⟨n, HNL⟩ : ∃ n, Hid (L.length = n) := ⟨_, rfl⟩
  rw [HNL.out] at H hl64
  obtain ⟨g, HG⟩ : ∃ g, Hid (getB L k = g) := ⟨_, rfl⟩
  rw [HG.out]
  obtain ⟨N, HN⟩ : ∃ N, Hid (w.heap.size = N) := ⟨_, rfl⟩
  obtain ⟨w1, hw1⟩ : ∃ y, y = w.alloc (.cells #[.string ⟨#[]⟩, .string ⟨#[]⟩, .bool false] 51 (0, 0)) := ⟨_, rfl⟩
  obtain ⟨B1, hb1⟩ := room_pair HN hw1
  have B1 := hide B1
  have L1 : Hid (Below N w w1) := (show _ from hb1.mono (Nat.le_of_eq HN.out.symm))
  have c0 := (H.out.d.kept hb1).cell (j := 0) rfl
  have HW1 := hide hw1
  clear hw1 hb1
  go_enter Tryz.func50, Tryz.ntmps50
  go_upto_region 1 with fail
  rw [← HW1.out, HN.out]
  go_wp2_with fail
  clear c0
  go_loopg [13] (n + 1) (fun g_ z wr => ∃ i : Nat, i ≤ n ∧ g_ + i = n + 1 ∧ z = .int .i64 (i : Int) ∧ Hid (getB (L.drop i) k = g) ∧ Hid (Blk wr N 51 (PC zp)) ∧ Hid (Below N w wr))
  case atStart => exact ⟨0, Nat.zero_le _, by omega, rfl, HG, B1, L1⟩
  case round =>
    clear B1 L1 HW1
    obtain ⟨i, hi, hg, rfl, HT, BR, BL⟩ := hrel
    by_cases hlt : i < n
    · have hlt' : (i : Int) < (n : Int) := by omega
      have hlt2 : i < L.length := by rw [HNL.out]; exact hlt
      have bw : Below w.heap.size w wr := BL.out.mono (Nat.le_of_eq HN.out)
      obtain ⟨b, off, rfl, hb1, hx⟩ := (H.out.own.rd.kept bw).nth (by omega)
      have hrow : wr.rangeAt b (off + i * 3) (PC L[i]) := hx i hlt2
      have hgd := getB_drop (k := k) hlt2
      obtain ⟨x, HX⟩ : ∃ x, Hid (L[i] = x) := ⟨L[i], (show L[i] = L[i] from rfl)⟩
      rw [HX.out] at hrow hgd
      rw [HT.out] at hgd
      have HGD := hide hgd
      obtain ⟨E, HE⟩ : ∃ E, Hid (wr.heap.size = E) := ⟨_, rfl⟩
      obtain ⟨w3, hw3⟩ : ∃ y, y = wr.alloc (.cells (PC x).toArray 51 (0, 0)) := ⟨_, rfl⟩
      have hb3 : Below wr.heap.size wr w3 := by rw [hw3]; exact (Below.refl _ _).alloc (Nat.le_refl _) _
      have B3 : Hid (Blk w3 E 51 (PC x)) := (show Blk _ _ _ _ by rw [hw3, ← HE.out]; exact Blk.new wr 51 (PC x))
      have R3 := hide (BR.out.kept hb3)
      have L3 : Hid (Below N w w3) := (show _ from BL.out.trans (hb3.mono (by have := BL.out.size; have := HN.out; omega)))
      have ck := B3.out.key
      have HW3 := hide hw3
      clear hx hgd hb3 hw3 bw
      by_cases hk : x.1 = k
      · have q1 : (x.1.toList == k.toList) = true := by rw [hk]; simp
        have HGX : Hid (g = some x) := (show _ = _ by rw [HGD.out, if_pos hk])
        go_wp2_with (first
          | (refine wpList_load_mid rfl 51 _ rfl b (off + i * 3) rfl (PC x) _ hrow Tryz.underlying51 rfl Tryz.size51 ?_)
          | (refine wpList_store_new rfl 51 _ _ rfl wr _ (PC x).toArray _ rfl rfl rfl Tryz.size51 rfl (all_one (PC_one x)) ?_; rw [← HW3.out, HE.out])
          | (refine wpList_load_mid rfl 51 _ rfl E 0 rfl (PC x) _ B3.out.range0 Tryz.underlying51 rfl Tryz.size51 ?_)
          | (refine wpList_store_blk rfl 51 _ _ rfl N (PC zp) (PC x) 51 rfl rfl R3.out rfl Tryz.size51 (PC_one x) ?_; intro w5 hb5 hu5)
          | fail)
        refine bodyPost_ret (results_pair rfl _ _ N x true 51 _ rfl rfl hb5 Tryz.underlying51 rfl Tryz.size51) rfl ⟨by rw [HGX.out]; rfl, ?_⟩
        rw [HN.out]
        exact L3.out.trans (hu5.below (Nat.le_refl _) (by have := R3.out.lt; omega))
      · have q1 : (x.1.toList == k.toList) = false := by rw [beq_eq_false_iff_ne]; exact fun e => hk (ba_inj.1 e)
        have HGX : Hid (getB (L.drop (i + 1)) k = g) := (show _ = _ by rw [HGD.out, if_neg hk])
        go_wp2_with (first
          | (refine wpList_load_mid rfl 51 _ rfl b (off + i * 3) rfl (PC x) _ hrow Tryz.underlying51 rfl Tryz.size51 ?_)
          | (refine wpList_store_new rfl 51 _ _ rfl wr _ (PC x).toArray _ rfl rfl rfl Tryz.size51 rfl (all_one (PC_one x)) ?_; rw [← HW3.out, HE.out])
          | fail)
        go_roundg (n - i)
        case measure => omega
        case rel => exact ⟨i + 1, by omega, by omega, by go_num, HGX, R3, L3⟩
    · have hlt' : ¬ (i : Int) < (n : Int) := by omega
      have HGX : Hid (g = none) := (show _ = _ by rw [← HT.out, List.drop_eq_nil_of_le (by rw [HNL.out]; omega)]; rfl)
      go_wp2_with (first
        | (refine wpList_store_blk rfl 51 _ _ rfl N (PC zp) (PC zp) 51 rfl rfl BR.out rfl Tryz.size51 (PC_one zp) ?_; intro w5 hb5 hu5)
        | fail)
      refine bodyPost_ret (results_pair rfl _ _ N zp false 51 _ rfl rfl hb5 Tryz.underlying51 rfl Tryz.size51) rfl ⟨by rw [HGX.out]; rfl, ?_⟩
      rw [HN.out]
      exact BL.out.trans (hu5.below (Nat.le_refl _) (by have := BR.out.lt; omega))
set_option maxHeartbeats 4000000 in
set_option maxRecDepth 100000 in
theorem rOver_any {w : World} {R : Nat} {vr : Value} {L : List Pr} (h : RBf w R vr L) (hl64 : L.length ≤ 64) {vl : Value} {l : List Pr} (hrl : RdG PE w vl l) (a b : ByteArray) (m : Int) (hll : l.length ≤ 1000) :
    Calls Tryz.prog 58 #[PT R, vl, .string a, .string b, .int .i64 m] w fun e w' => ∃ v, e = .returned v ∧ RdG PE w' v (overB l L a b m) ∧ Below w.heap.size w w' := by
  have hz := Zpair
  have H := hide h
  have HRL := hide hrl
  obtain ⟨ad, cp, rfl⟩ := h.own.rd.slice
  obtain ⟨al, cl, rfl⟩ := hrl.slice
  clear h hrl
  obtain ⟨n, HNL⟩ : ∃ n, Hid (L.length = n) := ⟨_, rfl⟩
  obtain ⟨nl, HNl⟩ : ∃ n, Hid (l.length = n) := ⟨_, rfl⟩
  rw [HNL.out] at H hl64
  rw [HNl.out] at HRL hll ⊢
  obtain ⟨N, HN⟩ : ∃ N, Hid (w.heap.size = N) := ⟨_, rfl⟩
  rw [HN.out]
  have c0 := H.out.d.cell (j := 0) rfl
  go_enter Tryz.func58, Tryz.ntmps58
  go_wp2_with fail
  clear c0
  go_loopg [11, 20] (n + 1) (fun g_ y z wr => ∃ (i : Nat) (p : Option Addr) (q d : Nat), i ≤ n ∧ g_ + i = n + 1 ∧ z = .int .i64 (i : Int) ∧ y = .slice p q d ∧ Hid (OwnG PE wr N 51 (.slice p q d) ((L.take i).filter (inR a b))) ∧ Hid (Below N w wr))
  case atStart => exact ⟨0, none, 0, 0, Nat.zero_le _, by omega, rfl, rfl, ownG_nil _ _ _, Below.refl _ _⟩
  case round =>
    obtain ⟨i, p, q, d, hi, hg, rfl, rfl, HO, BL⟩ := hrel
    have bw : Below w.heap.size w wr := BL.out.mono (Nat.le_of_eq HN.out)
    by_cases hlt : i < n
    · have hlt' : (i : Int) < (n : Int) := by omega
      have hlt2 : i < L.length := by rw [HNL.out]; exact hlt
      obtain ⟨bb, off, rfl, hb1, hx⟩ := (H.out.own.rd.kept bw).nth (by omega)
      have hrow : wr.rangeAt bb (off + i * 3) (PC L[i]) := hx i hlt2
      have htk := List.take_succ_eq_append_getElem hlt2
      obtain ⟨x, HX⟩ : ∃ x, Hid (L[i] = x) := ⟨L[i], (show L[i] = L[i] from rfl)⟩
      rw [HX.out] at hrow htk
      have HTK := hide htk
      obtain ⟨E, HE⟩ : ∃ E, Hid (wr.heap.size = E) := ⟨_, rfl⟩
      obtain ⟨w3, hw3⟩ : ∃ y, y = wr.alloc (.cells (PC x).toArray 51 (0, 0)) := ⟨_, rfl⟩
      have hb3 : Below wr.heap.size wr w3 := by rw [hw3]; exact (Below.refl _ _).alloc (Nat.le_refl _) _
      have B3 : Hid (Blk w3 E 51 (PC x)) := (show Blk _ _ _ _ by rw [hw3, ← HE.out]; exact Blk.new wr 51 (PC x))
      have O3 := hide (HO.out.kept hb3)
      have hN3 : N ≤ wr.heap.size := by have := BL.out.size; have := HN.out; omega
      have L3 : Hid (Below N w w3) := (show _ from BL.out.trans (hb3.mono hN3))
      have hN4 : N ≤ w3.heap.size := Nat.le_trans hN3 hb3.size
      have ck := B3.out.key
      have HW3 := hide hw3
      have hge := sge 9 x.1 a
      clear hx htk hb3 hw3 bw
      cases q1 : lt x.1 a with
      | true =>
        have HF : Hid ((L.take (i + 1)).filter (inR a b) = (L.take i).filter (inR a b)) := (show _ = _ by rw [HTK.out, List.filter_append]; simp [inR, q1])
        rw [q1] at hge
        simp only [Bool.not_true] at hge
        go_wp2_with (first
          | (refine wpList_load_mid rfl 51 _ rfl bb (off + i * 3) rfl (PC x) _ hrow Tryz.underlying51 rfl Tryz.size51 ?_)
          | (refine wpList_store_new rfl 51 _ _ rfl wr _ (PC x).toArray _ rfl rfl rfl Tryz.size51 rfl (all_one (PC_one x)) ?_; rw [← HW3.out, HE.out])
          | fail)
        go_roundg (n - i)
        case measure => omega
        case rel => exact ⟨i + 1, p, q, d, by omega, by omega, by go_num, rfl, (show OwnG _ _ _ _ _ _ by rw [HF.out]; exact O3.out), L3⟩
      | false =>
        rw [q1] at hge
        simp only [Bool.not_false] at hge
        cases q2 : Op.bytesLess x.1.toList b.toList with
        | false =>
          have HF : Hid ((L.take (i + 1)).filter (inR a b) = (L.take i).filter (inR a b)) := (show _ = _ by rw [HTK.out, List.filter_append]; simp [inR, q1, show lt x.1 b = false from q2])
          go_wp2_with (first
            | (refine wpList_load_mid rfl 51 _ rfl bb (off + i * 3) rfl (PC x) _ hrow Tryz.underlying51 rfl Tryz.size51 ?_)
            | (refine wpList_store_new rfl 51 _ _ rfl wr _ (PC x).toArray _ rfl rfl rfl Tryz.size51 rfl (all_one (PC_one x)) ?_; rw [← HW3.out, HE.out])
            | fail)
          go_roundg (n - i)
          case measure => omega
          case rel => exact ⟨i + 1, p, q, d, by omega, by omega, by go_num, rfl, (show OwnG _ _ _ _ _ _ by rw [HF.out]; exact O3.out), L3⟩
        | true =>
          have HF : Hid ((L.take (i + 1)).filter (inR a b) = (L.take i).filter (inR a b) ++ [x]) := (show _ = _ by rw [HTK.out, List.filter_append]; simp [inR, q1, show lt x.1 b = true from q2])
          obtain ⟨out, HOUT⟩ : ∃ o, Hid ((L.take i).filter (inR a b) = o) := ⟨_, rfl⟩
          have HL9 : Hid (out.length + [x].length ≤ 10000000) := (show _ ≤ _ by
            have := List.length_filter_le (inR a b) (L.take i)
            rw [HOUT.out, List.length_take] at this
            rw [List.length_singleton]
            omega)
          rw [HOUT.out] at O3 HF
          have HL8 : Hid (N ≤ (w3.alloc (.cells (PC x).toArray 51 (0, 0))).heap.size) := (show _ ≤ _ by simp; omega)
          go_wp2_with (first
            | (refine wpList_load_mid rfl 51 _ rfl bb (off + i * 3) rfl (PC x) _ hrow Tryz.underlying51 rfl Tryz.size51 ?_)
            | (refine wpList_store_new rfl 51 _ _ rfl wr _ (PC x).toArray _ rfl rfl rfl Tryz.size51 rfl (all_one (PC_one x)) ?_; rw [← HW3.out, HE.out])
            | (refine wpList_load_mid rfl 51 _ rfl E 0 rfl (PC x) _ B3.out.range0 Tryz.underlying51 rfl Tryz.size51 ?_)
            | (refine wpList_build_row rfl _ rfl x rfl ?_)
            | (refine wpList_append_E Tryz.underlying35 infoP9 (by decide) rfl (.tmp 34) (.tmp 36) rfl N (.slice p q d) out rfl (O3.out.kept ((Below.refl _ _).alloc (Nat.le_refl _) _)) (.slice (some ⟨w3.heap.size, 0, none⟩) 1 1) [x] rfl (rdG_one (E := PE) w3 51 x) HL9.out HL8.out ?_; intro v9 w9 o9 g9 q9; have O9 := hide o9; have G9 := hide g9; clear o9 g9 q9; obtain ⟨p9, c9, hv9⟩ := O9.out.form; obtain ⟨n2, hn2⟩ : ∃ k, (out ++ [x]).length = k := ⟨_, rfl⟩; rw [hn2] at hv9; subst hv9; have HN2 := hide hn2; clear hn2)
            | fail)
          have hG : Chg (fun b => (Value.slice p q d).ownBlock = some b) w3 w9 := (Chg.alloc _ w3 (.cells (PC x).toArray 51 (0, 0))).trans (Chg.of_grown G9.out (fun k e _ => e))
          have L9 : Hid (Below N w w9) := (show _ from L3.out.trans (hG.below hN4 (fun k hk h => by have := (O3.out.block h).1; omega)))
          clear hG
          go_roundg (n - i)
          case measure => omega
          case rel => exact ⟨i + 1, p9, n2, c9, by omega, by omega, by go_num, rfl, (show OwnG _ _ _ _ _ _ by rw [HF.out]; exact O9.out), L9⟩
    · have hlt' : ¬ (i : Int) < (n : Int) := by omega
      have HOF : Hid (RdG PE wr (.slice p q d) (L.filter (inR a b))) := (show RdG _ _ _ _ by have := HO.out.rd; rwa [List.take_of_length_le (by rw [HNL.out]; omega)] at this)
      have CV := hide (rOverlay_any (HRL.out.kept bw) HOF.out (by
        have := List.length_filter_le (inR a b) L
        rw [HNL.out] at this
        rw [HNl.out]
        omega))
      clear bw
      go_wp2_with fail
      refine CV.out.mono ?_
      rintro e w4 ⟨v4, rfl, o4, hb4⟩
      have O4 := hide o4
      have L4 : Hid (Below N w w4) := (show _ from BL.out.trans (hb4.mono (by have := BL.out.size; have := HN.out; omega)))
      obtain ⟨p4, c4, rfl⟩ := o4.form
      have hc4 := o4.rd.cap
      obtain ⟨T, HT⟩ : ∃ T, Hid (ovl l (L.filter (inR a b)) = T) := ⟨_, rfl⟩
      have HOV : Hid (overB l L a b m = T.take m.toNat) := (show _ = _ by unfold overB; rw [HT.out])
      rw [HT.out] at O4 hc4 ⊢
      obtain ⟨t, HTn⟩ : ∃ n, Hid (T.length = n) := ⟨_, rfl⟩
      rw [HTn.out] at O4 hc4 ⊢
      clear o4 hb4 CV HO HOF
      have c4m := O4.out.rd.max
      by_cases hm : m < 0
      · have q1 : decide (m < 0) = true := by simp; omega
        have HOV2 : Hid (overB l L a b m = T.take 0) := (show _ = _ by rw [HOV.out, show m.toNat = 0 by omega])
        by_cases ht : 0 < t
        · have q2 : decide ((0 : Int) < (t : Int)) = true := by simp; omega
          obtain ⟨hs1, hs2⟩ := slice_G_to (E := PE) (P := Tryz.prog) Tryz.underlying35 Tryz.size51 p4 t c4 0 (by omega) hc4
          have HS2 := hide (hs2 _ _ O4.out.rd)
          have hs1 : ∀ W, (Instr.sliceAt 35 (.slice p4 t c4) none (some (.int .i64 0)) none).run Tryz.prog W = .ok (.slice p4 0 c4) W := hs1
          clear hs2
          go_wp2_with fail
          go_ret
          exact ⟨_, rfl, by rw [HOV2.out]; exact HS2.out, L4.out⟩
        · have q2 : decide ((0 : Int) < (t : Int)) = false := by simp; omega
          go_wp2_with fail
          go_ret
          refine ⟨_, rfl, ?_, L4.out⟩
          rw [HOV2.out]
          have : T = [] := List.eq_nil_of_length_eq_zero (by rw [HTn.out]; omega)
          subst this
          exact O4.out.rd
      · have q1 : decide (m < 0) = false := by simp; omega
        by_cases ht : m < t
        · have q2 : decide (m < (t : Int)) = true := by simp; omega
          obtain ⟨j, rfl⟩ : ∃ j : Nat, m = (j : Int) := ⟨m.toNat, by omega⟩
          obtain ⟨hs1, hs2⟩ := slice_G_to (E := PE) (P := Tryz.prog) Tryz.underlying35 Tryz.size51 p4 t c4 j (by omega) hc4
          have HS2 := hide (hs2 _ _ O4.out.rd)
          have HOV2 : Hid (overB l L a b (j : Int) = T.take j) := (show _ = _ by rw [HOV.out, Int.toNat_natCast])
          clear hs2
          go_wp2_with fail
          go_ret
          exact ⟨_, rfl, by rw [HOV2.out]; exact HS2.out, L4.out⟩
        · have q2 : decide (m < (t : Int)) = false := by simp; omega
          go_wp2_with fail
          go_ret
          refine ⟨_, rfl, ?_, L4.out⟩
          rw [HOV.out, List.take_of_length_le (by rw [HTn.out]; omega)]
          exact O4.out.rd
end Go.Proofs.YtcicekggeampcaaGreat
