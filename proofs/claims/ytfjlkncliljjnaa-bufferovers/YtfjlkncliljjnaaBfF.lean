/-
  The document's Buffer: Put, Drop, Get, Over.
-/
import Derived.Test.YtfjlkncliljjnaaBfB
import Derived.Test.YtfjlkncliljjnaaBfA
namespace Go.Proofs.Ytfjlkncliljjnaa
open Go.RowKit
set_option maxRecDepth 100000 in
theorem rPut_any {w : World} {R : Nat} {vr : Value} {L : List Pr} (h : RBf w R vr L) (hs : Bs L) (hl64 : L.length ≤ 64) (k v : ByteArray) : Calls Try.prog 14 #[PT R, .string k, .string v] w fun e w' => e = .returned (.int .i64 (wrE L (k, v, false))) ∧ ∃ vr', RBf w' R vr' (wrB L (k, v, false)) ∧ Chg (fun b => b = R) w w' := by
  have hz := Zpair
  have CW := hide (rput_any h hs hl64 (k, v, false))
  obtain ⟨r, HR⟩ : ∃ r, Hid (wrE L (k, v, false) = r) := ⟨_, rfl⟩
  rw [HR.out] at CW ⊢
  go_enter Try.func14, Try.ntmps14
  go_wp2_with fail
  refine CW.out.mono ?_
  rintro e w2 ⟨rfl, vr', h2, c2⟩
  have H2 := hide h2
  have C2 := hide c2
  clear h2 c2
  go_wp2_with fail
  go_ret
  exact ⟨rfl, _, H2.out, C2.out⟩
set_option maxRecDepth 100000 in
theorem rDrop_any {w : World} {R : Nat} {vr : Value} {L : List Pr} (h : RBf w R vr L) (hs : Bs L) (hl64 : L.length ≤ 64) (k : ByteArray) : Calls Try.prog 13 #[PT R, .string k] w fun e w' => e = .returned (.int .i64 (wrE L (k, em, true))) ∧ ∃ vr', RBf w' R vr' (wrB L (k, em, true)) ∧ Chg (fun b => b = R) w w' := by
  have hz := Zpair
  have CW := hide (rput_any h hs hl64 (k, em, true))
  obtain ⟨r, HR⟩ : ∃ r, Hid (wrE L (k, em, true) = r) := ⟨_, rfl⟩
  rw [HR.out] at CW ⊢
  go_enter Try.func13, Try.ntmps13
  go_wp2_with fail
  refine CW.out.mono ?_
  rintro e w2 ⟨rfl, vr', h2, c2⟩
  have H2 := hide h2
  have C2 := hide c2
  clear h2 c2
  go_wp2_with fail
  go_ret
  exact ⟨rfl, _, H2.out, C2.out⟩
theorem getB_drop {L : List Pr} {k : ByteArray} {i : Nat} (hi : i < L.length) : getB (L.drop i) k = if L[i].1 = k then some L[i] else getB (L.drop (i + 1)) k := by
  rw [List.drop_eq_getElem_cons hi]
  rfl
set_option maxHeartbeats 2000000 in
set_option maxRecDepth 100000 in
theorem rGet_any {w : World} {R : Nat} {vr : Value} {L : List Pr} (h : RBf w R vr L) (hl64 : L.length ≤ 64) (k : ByteArray) : Calls Try.prog 16 #[PT R, .string k] w fun e w' => e = .returned (.tuple #[.agg (PC ((getB L k).getD zp)).toArray, .bool (getB L k).isSome]) ∧ Below w.heap.size w w' := by
  have hz := Zpair
  have H := hide h
  obtain ⟨a, cp, rfl⟩ := h.own.rd.slice
  clear h
  obtain ⟨n, HNL⟩ : ∃ n, Hid (L.length = n) := ⟨_, rfl⟩
  rw [HNL.out] at H hl64
  obtain ⟨g, HG⟩ : ∃ g, Hid (getB L k = g) := ⟨_, rfl⟩
  rw [HG.out]
  obtain ⟨N, HN⟩ : ∃ N, Hid (w.heap.size = N) := ⟨_, rfl⟩
  obtain ⟨w1, hw1⟩ : ∃ y, y = w.alloc (.cells #[.string ⟨#[]⟩, .string ⟨#[]⟩, .bool false] 38 (0, 0)) := ⟨_, rfl⟩
  obtain ⟨B1, hb1⟩ := room_pair HN hw1
  have B1 := hide B1
  have L1 : Hid (Below N w w1) := (show _ from hb1.mono (Nat.le_of_eq HN.out.symm))
  have c0 := (H.out.d.kept hb1).cell (j := 0) rfl
  have HW1 := hide hw1
  clear hw1 hb1
  go_enter Try.func16, Try.ntmps16
  go_upto_region 1 with fail
  rw [← HW1.out, HN.out]
  go_wp2_with fail
  clear c0
  go_loopg [13] (n + 1) (fun g_ z wr => ∃ i : Nat, i ≤ n ∧ g_ + i = n + 1 ∧ z = .int .i64 (i : Int) ∧ Hid (getB (L.drop i) k = g) ∧ Hid (Blk wr N 38 (PC zp)) ∧ Hid (Below N w wr))
  case atStart => exact ⟨0, Nat.zero_le _, by omega, rfl, HG, B1, L1⟩
  case round =>
    clear B1 L1 HW1
    obtain ⟨i, hi, hg, rfl, HT, BR, BL⟩ := hrel
    by_cases hlt : i < n
    · have hlt' : (i : Int) < (n : Int) := by omega
      have hlt2 : i < L.length := by rw [HNL.out]; exact hlt
      have bw : Below w.heap.size w wr := BL.out.mono (Nat.le_of_eq HN.out)
      obtain ⟨b, off, rfl, hb1, hx⟩ := (H.out.own.rd.kept bw).nth (by omega)
      have hrow : wr.rangeAt b (off + i * 3) (PC L[i]) := hx i hlt2
      have hgd := getB_drop (k := k) hlt2
      obtain ⟨x, HX⟩ : ∃ x, Hid (L[i] = x) := ⟨L[i], (show L[i] = L[i] from rfl)⟩
      rw [HX.out] at hrow hgd
      rw [HT.out] at hgd
      have HGD := hide hgd
      obtain ⟨E, HE⟩ : ∃ E, Hid (wr.heap.size = E) := ⟨_, rfl⟩
      obtain ⟨w3, hw3⟩ : ∃ y, y = wr.alloc (.cells (PC x).toArray 38 (0, 0)) := ⟨_, rfl⟩
      have hb3 : Below wr.heap.size wr w3 := by rw [hw3]; exact (Below.refl _ _).alloc (Nat.le_refl _) _
      have B3 : Hid (Blk w3 E 38 (PC x)) := (show Blk _ _ _ _ by rw [hw3, ← HE.out]; exact Blk.new wr 38 (PC x))
      have R3 := hide (BR.out.kept hb3)
      have L3 : Hid (Below N w w3) := (show _ from BL.out.trans (hb3.mono (by have := BL.out.size; have := HN.out; omega)))
      have ck := B3.out.key
      have HW3 := hide hw3
      clear hx hgd hb3 hw3 bw
      by_cases hk : x.1 = k
      · have q1 : (x.1.toList == k.toList) = true := by rw [hk]; simp
        have HGX : Hid (g = some x) := (show _ = _ by rw [HGD.out, if_pos hk])
        go_wp2_with (first
          | (refine wpList_load_mid rfl 38 _ rfl b (off + i * 3) rfl (PC x) _ hrow Try.underlying38 rfl Try.size38 ?_)
          | (refine wpList_store_new rfl 38 _ _ rfl wr _ (PC x).toArray _ rfl rfl rfl Try.size38 rfl (all_one (PC_one x)) ?_; rw [← HW3.out, HE.out])
          | (refine wpList_load_mid rfl 38 _ rfl E 0 rfl (PC x) _ B3.out.range0 Try.underlying38 rfl Try.size38 ?_)
          | (refine wpList_store_blk rfl 38 _ _ rfl N (PC zp) (PC x) 38 rfl rfl R3.out rfl Try.size38 (PC_one x) ?_; intro w5 hb5 hu5)
          | fail)
        refine bodyPost_ret (results_pair rfl _ _ N x true 38 _ rfl rfl hb5 Try.underlying38 rfl Try.size38) rfl ⟨by rw [HGX.out]; rfl, ?_⟩
        rw [HN.out]
        exact L3.out.trans (hu5.below (Nat.le_refl _) (by have := R3.out.lt; omega))
      · have q1 : (x.1.toList == k.toList) = false := by rw [beq_eq_false_iff_ne]; exact fun e => hk (ba_inj.1 e)
        have HGX : Hid (getB (L.drop (i + 1)) k = g) := (show _ = _ by rw [HGD.out, if_neg hk])
        go_wp2_with (first
          | (refine wpList_load_mid rfl 38 _ rfl b (off + i * 3) rfl (PC x) _ hrow Try.underlying38 rfl Try.size38 ?_)
          | (refine wpList_store_new rfl 38 _ _ rfl wr _ (PC x).toArray _ rfl rfl rfl Try.size38 rfl (all_one (PC_one x)) ?_; rw [← HW3.out, HE.out])
          | fail)
        go_roundg (n - i)
        case measure => omega
        case rel => exact ⟨i + 1, by omega, by omega, by go_num, HGX, R3, L3⟩
    · have hlt' : ¬ (i : Int) < (n : Int) := by omega
      have HGX : Hid (g = none) := (show _ = _ by rw [← HT.out, List.drop_eq_nil_of_le (by rw [HNL.out]; omega)]; rfl)
      go_wp2_with (first
        | (refine wpList_store_blk rfl 38 _ _ rfl N (PC zp) (PC zp) 38 rfl rfl BR.out rfl Try.size38 (PC_one zp) ?_; intro w5 hb5 hu5)
        | fail)
      refine bodyPost_ret (results_pair rfl _ _ N zp false 38 _ rfl rfl hb5 Try.underlying38 rfl Try.size38) rfl ⟨by rw [HGX.out]; rfl, ?_⟩
      rw [HN.out]
      exact BL.out.trans (hu5.below (Nat.le_refl _) (by have := BR.out.lt; omega))
set_option maxHeartbeats 4000000 in
set_option maxRecDepth 100000 in
theorem rOver_any {w : World} {R : Nat} {vr : Value} {L : List Pr} (h : RBf w R vr L) (hl64 : L.length ≤ 64) {vl : Value} {l : List Pr} (hrl : RdG PE w vl l) (a b : ByteArray) (m : Int) (hll : l.length ≤ 1000) :
    Calls Try.prog 22 #[PT R, vl, .string a, .string b, .int .i64 m] w fun e w' => ∃ v, e = .returned v ∧ RdG PE w' v (overB l L a b m) ∧ Below w.heap.size w w' := by
  have hz := Zpair
  have H := hide h
  have HRL := hide hrl
  obtain ⟨ad, cp, rfl⟩ := h.own.rd.slice
  obtain ⟨al, cl, rfl⟩ := hrl.slice
  clear h hrl
  obtain ⟨n, HNL⟩ : ∃ n, Hid (L.length = n) := ⟨_, rfl⟩
  obtain ⟨nl, HNl⟩ : ∃ n, Hid (l.length = n) := ⟨_, rfl⟩
  rw [HNL.out] at H hl64
  rw [HNl.out] at HRL hll ⊢
  obtain ⟨N, HN⟩ : ∃ N, Hid (w.heap.size = N) := ⟨_, rfl⟩
  rw [HN.out]
  have c0 := H.out.d.cell (j := 0) rfl
  go_enter Try.func22, Try.ntmps22
  go_wp2_with fail
  clear c0
  go_loopg [11, 20] (n + 1) (fun g_ y z wr => ∃ (i : Nat) (p : Option Addr) (q d : Nat), i ≤ n ∧ g_ + i = n + 1 ∧ z = .int .i64 (i : Int) ∧ y = .slice p q d ∧ Hid (OwnG PE wr N 38 (.slice p q d) ((L.take i).filter (inR a b))) ∧ Hid (Below N w wr))
  case atStart => exact ⟨0, none, 0, 0, Nat.zero_le _, by omega, rfl, rfl, ownG_nil _ _ _, Below.refl _ _⟩
  case round =>
    obtain ⟨i, p, q, d, hi, hg, rfl, rfl, HO, BL⟩ := hrel
    have bw : Below w.heap.size w wr := BL.out.mono (Nat.le_of_eq HN.out)
    by_cases hlt : i < n
    · have hlt' : (i : Int) < (n : Int) := by omega
      have hlt2 : i < L.length := by rw [HNL.out]; exact hlt
      obtain ⟨bb, off, rfl, hb1, hx⟩ := (H.out.own.rd.kept bw).nth (by omega)
      have hrow : wr.rangeAt bb (off + i * 3) (PC L[i]) := hx i hlt2
      have htk := List.take_succ_eq_append_getElem hlt2
      obtain ⟨x, HX⟩ : ∃ x, Hid (L[i] = x) := ⟨L[i], (show L[i] = L[i] from rfl)⟩
      rw [HX.out] at hrow htk
      have HTK := hide htk
      obtain ⟨E, HE⟩ : ∃ E, Hid (wr.heap.size = E) := ⟨_, rfl⟩
      obtain ⟨w3, hw3⟩ : ∃ y, y = wr.alloc (.cells (PC x).toArray 38 (0, 0)) := ⟨_, rfl⟩
      have hb3 : Below wr.heap.size wr w3 := by rw [hw3]; exact (Below.refl _ _).alloc (Nat.le_refl _) _
      have B3 : Hid (Blk w3 E 38 (PC x)) := (show Blk _ _ _ _ by rw [hw3, ← HE.out]; exact Blk.new wr 38 (PC x))
      have O3 := hide (HO.out.kept hb3)
      have hN3 : N ≤ wr.heap.size := by have := BL.out.size; have := HN.out; omega
      have L3 : Hid (Below N w w3) := (show _ from BL.out.trans (hb3.mono hN3))
      have hN4 : N ≤ w3.heap.size := Nat.le_trans hN3 hb3.size
      have ck := B3.out.key
      have HW3 := hide hw3
      have hge := sge 9 x.1 a
      clear hx htk hb3 hw3 bw
      cases q1 : lt x.1 a with
      | true =>
        have HF : Hid ((L.take (i + 1)).filter (inR a b) = (L.take i).filter (inR a b)) := (show _ = _ by rw [HTK.out, List.filter_append]; simp [inR, q1])
        rw [q1] at hge
        simp only [Bool.not_true] at hge
        go_wp2_with (first
          | (refine wpList_load_mid rfl 38 _ rfl bb (off + i * 3) rfl (PC x) _ hrow Try.underlying38 rfl Try.size38 ?_)
          | (refine wpList_store_new rfl 38 _ _ rfl wr _ (PC x).toArray _ rfl rfl rfl Try.size38 rfl (all_one (PC_one x)) ?_; rw [← HW3.out, HE.out])
          | fail)
        go_roundg (n - i)
        case measure => omega
        case rel => exact ⟨i + 1, p, q, d, by omega, by omega, by go_num, rfl, (show OwnG _ _ _ _ _ _ by rw [HF.out]; exact O3.out), L3⟩
      | false =>
        rw [q1] at hge
        simp only [Bool.not_false] at hge
        cases q2 : Op.bytesLess x.1.toList b.toList with
        | false =>
          have HF : Hid ((L.take (i + 1)).filter (inR a b) = (L.take i).filter (inR a b)) := (show _ = _ by rw [HTK.out, List.filter_append]; simp [inR, q1, show lt x.1 b = false from q2])
          go_wp2_with (first
            | (refine wpList_load_mid rfl 38 _ rfl bb (off + i * 3) rfl (PC x) _ hrow Try.underlying38 rfl Try.size38 ?_)
            | (refine wpList_store_new rfl 38 _ _ rfl wr _ (PC x).toArray _ rfl rfl rfl Try.size38 rfl (all_one (PC_one x)) ?_; rw [← HW3.out, HE.out])
            | fail)
          go_roundg (n - i)
          case measure => omega
          case rel => exact ⟨i + 1, p, q, d, by omega, by omega, by go_num, rfl, (show OwnG _ _ _ _ _ _ by rw [HF.out]; exact O3.out), L3⟩
        | true =>
          have HF : Hid ((L.take (i + 1)).filter (inR a b) = (L.take i).filter (inR a b) ++ [x]) := (show _ = _ by rw [HTK.out, List.filter_append]; simp [inR, q1, show lt x.1 b = true from q2])
          obtain ⟨out, HOUT⟩ : ∃ o, Hid ((L.take i).filter (inR a b) = o) := ⟨_, rfl⟩
          have HL9 : Hid (out.length + [x].length ≤ 10000000) := (show _ ≤ _ by
            have := List.length_filter_le (inR a b) (L.take i)
            rw [HOUT.out, List.length_take] at this
            rw [List.length_singleton]
            omega)
          rw [HOUT.out] at O3 HF
          have HL8 : Hid (N ≤ (w3.alloc (.cells (PC x).toArray 38 (0, 0))).heap.size) := (show _ ≤ _ by simp; omega)
          go_wp2_with (first
            | (refine wpList_load_mid rfl 38 _ rfl bb (off + i * 3) rfl (PC x) _ hrow Try.underlying38 rfl Try.size38 ?_)
            | (refine wpList_store_new rfl 38 _ _ rfl wr _ (PC x).toArray _ rfl rfl rfl Try.size38 rfl (all_one (PC_one x)) ?_; rw [← HW3.out, HE.out])
            | (refine wpList_load_mid rfl 38 _ rfl E 0 rfl (PC x) _ B3.out.range0 Try.underlying38 rfl Try.size38 ?_)
            | (refine wpList_build_row rfl _ rfl x rfl ?_)
            | (refine wpList_append_E Try.underlying28 infoP9 (by decide) rfl (.tmp 34) (.tmp 36) rfl N (.slice p q d) out rfl (O3.out.kept ((Below.refl _ _).alloc (Nat.le_refl _) _)) (.slice (some ⟨w3.heap.size, 0, none⟩) 1 1) [x] rfl (rdG_one (E := PE) w3 38 x) HL9.out HL8.out ?_; intro v9 w9 o9 g9 q9; have O9 := hide o9; have G9 := hide g9; clear o9 g9 q9; obtain ⟨p9, c9, hv9⟩ := O9.out.form; obtain ⟨n2, hn2⟩ : ∃ k, (out ++ [x]).length = k := ⟨_, rfl⟩; rw [hn2] at hv9; subst hv9; have HN2 := hide hn2; clear hn2)
            | fail)
          have hG : Chg (fun b => (Value.slice p q d).ownBlock = some b) w3 w9 := (Chg.alloc _ w3 (.cells (PC x).toArray 38 (0, 0))).trans (Chg.of_grown G9.out (fun k e _ => e))
          have L9 : Hid (Below N w w9) := (show _ from L3.out.trans (hG.below hN4 (fun k hk h => by have := (O3.out.block h).1; omega)))
          clear hG
          go_roundg (n - i)
          case measure => omega
          case rel => exact ⟨i + 1, p9, n2, c9, by omega, by omega, by go_num, rfl, (show OwnG _ _ _ _ _ _ by rw [HF.out]; exact O9.out), L9⟩
    · have hlt' : ¬ (i : Int) < (n : Int) := by omega
      have HOF : Hid (RdG PE wr (.slice p q d) (L.filter (inR a b))) := (show RdG _ _ _ _ by have := HO.out.rd; rwa [List.take_of_length_le (by rw [HNL.out]; omega)] at this)
      have CV := hide (rOverlay_any (HRL.out.kept bw) HOF.out (by
        have := List.length_filter_le (inR a b) L
        rw [HNL.out] at this
        rw [HNl.out]
        omega))
      clear bw
      go_wp2_with fail
      refine CV.out.mono ?_
      rintro e w4 ⟨v4, rfl, o4, hb4⟩
      have O4 := hide o4
      have L4 : Hid (Below N w w4) := (show _ from BL.out.trans (hb4.mono (by have := BL.out.size; have := HN.out; omega)))
      obtain ⟨p4, c4, rfl⟩ := o4.form
      have hc4 := o4.rd.cap
      obtain ⟨T, HT⟩ : ∃ T, Hid (ovl l (L.filter (inR a b)) = T) := ⟨_, rfl⟩
      have HOV : Hid (overB l L a b m = T.take m.toNat) := (show _ = _ by unfold overB; rw [HT.out])
      rw [HT.out] at O4 hc4 ⊢
      obtain ⟨t, HTn⟩ : ∃ n, Hid (T.length = n) := ⟨_, rfl⟩
      rw [HTn.out] at O4 hc4 ⊢
      clear o4 hb4 CV HO HOF
      have c4m := O4.out.rd.max
      by_cases hm : m < 0
      · have q1 : decide (m < 0) = true := by simp; omega
        have HOV2 : Hid (overB l L a b m = T.take 0) := (show _ = _ by rw [HOV.out, show m.toNat = 0 by omega])
        by_cases ht : 0 < t
        · have q2 : decide ((0 : Int) < (t : Int)) = true := by simp; omega
          obtain ⟨hs1, hs2⟩ := slice_G_to (E := PE) (P := Try.prog) Try.underlying28 Try.size38 p4 t c4 0 (by omega) hc4
          have HS2 := hide (hs2 _ _ O4.out.rd)
          have hs1 : ∀ W, (Instr.sliceAt 28 (.slice p4 t c4) none (some (.int .i64 0)) none).run Try.prog W = .ok (.slice p4 0 c4) W := hs1
          clear hs2
          go_wp2_with fail
          go_ret
          exact ⟨_, rfl, by rw [HOV2.out]; exact HS2.out, L4.out⟩
        · have q2 : decide ((0 : Int) < (t : Int)) = false := by simp; omega
          go_wp2_with fail
          go_ret
          refine ⟨_, rfl, ?_, L4.out⟩
          rw [HOV2.out]
          have : T = [] := List.eq_nil_of_length_eq_zero (by rw [HTn.out]; omega)
          subst this
          exact O4.out.rd
      · have q1 : decide (m < 0) = false := by simp; omega
        by_cases ht : m < t
        · have q2 : decide (m < (t : Int)) = true := by simp; omega
          obtain ⟨j, rfl⟩ : ∃ j : Nat, m = (j : Int) := ⟨m.toNat, by omega⟩
          obtain ⟨hs1, hs2⟩ := slice_G_to (E := PE) (P := Try.prog) Try.underlying28 Try.size38 p4 t c4 j (by omega) hc4
          have HS2 := hide (hs2 _ _ O4.out.rd)
          have HOV2 : Hid (overB l L a b (j : Int) = T.take j) := (show _ = _ by rw [HOV.out, Int.toNat_natCast])
          clear hs2
          go_wp2_with fail
          go_ret
          exact ⟨_, rfl, by rw [HOV2.out]; exact HS2.out, L4.out⟩
        · have q2 : decide (m < (t : Int)) = false := by simp; omega
          go_wp2_with fail
          go_ret
          refine ⟨_, rfl, ?_, L4.out⟩
          rw [HOV.out, List.take_of_length_le (by rw [HTn.out]; omega)]
          exact O4.out.rd
#print axioms rOver_any
end Go.Proofs.Ytfjlkncliljjnaa
