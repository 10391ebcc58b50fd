/-
  The law RecordLimits: what the call does.
-/
import Derived.Test.YtmicmbjbclkbjaaLmA
import Derived.Test.YtmicmbjbclkbjaaGRq
import Derived.Test.YtmicmbjbclkbjaaRcL
namespace Go.Proofs.Ytmicmbjbclkbjaa
open Go.RowKit
set_option maxHeartbeats 8000000 in
set_option maxRecDepth 100000 in
theorem recordLimits_any {w : World} {r : Rc} {n : Nat} (hr : ROk w r) (hb : RB 140737488351232 r) (_hn : n < 18446744073709551616) : Calls Try.prog 6 #[.agg (RC r).toArray, .int .u64 (n : Int)] w fun e w' => e = .returned (.bool true) ∧ Below w.heap.size w w' := by
  obtain ⟨N, HN⟩ : ∃ N, Hid (w.heap.size = N) := ⟨_, rfl⟩
  obtain ⟨w1, hw1⟩ : ∃ y, y = w.alloc (.cells (RC r).toArray 27 (0, 0)) := ⟨_, rfl⟩
  obtain ⟨b1, l1⟩ := newB HN hw1
  have HW := hide hw1
  have RO := hide (hr.kept l1.out)
  have HBR := hide hb
  obtain ⟨j, HJ⟩ : ∃ j, Hid (n % 10 = j) := ⟨_, rfl⟩
  have hj10 : j < 10 := by rw [← HJ.out]; exact Nat.mod_lt _ (by omega)
  have hnj : (n : Int) % 10 = (j : Int) := by rw [← HJ.out]; simp
  have hwj : wrap64 (j : Int) = (j : Int) := by unfold wrap64; omega
  obtain ⟨k, Hk⟩ : ∃ k, Hid (25 + j = k) := ⟨_, rfl⟩
  have hk34 : k ≤ 34 := by have := Hk.out; omega
  have hk25 : 25 ≤ k := by have := Hk.out; omega
  have hkj : (25 : Int) + (j : Int) = (k : Int) := by have := Hk.out; omega
  obtain ⟨B0, HB0⟩ : ∃ z, Hid (w1.heap.size = z) := ⟨_, rfl⟩
  obtain ⟨w2, hw2⟩ : ∃ y, y = w1.alloc (.cells #[.int .i64 1, .int .i64 0, .bool false, .slice none 0 0, .slice none 0 0] 27 (0, 0)) := ⟨_, rfl⟩
  obtain ⟨b2, l2⟩ := newB (A := [.int .i64 1, .int .i64 0, .bool false, .slice none 0 0, .slice none 0 0]) HB0 hw2
  have HW2 := hide hw2
  have hbl := build_lim
  have hz := zeroR
  have L0 : Hid (Below B0 w1 w2) := (show Below _ _ _ by rw [← HB0.out]; exact l2.out)
  have X0 : Hid (Blk w2 B0 27 [.int .i64 1, .int .i64 0, .bool false, .slice none 0 0, .slice none 0 0]) := b2
  have P0 : Hid (OwnG PE w2 B0 41 (.slice none 0 0) (wsL 0)) := (show OwnG _ _ _ _ _ _ from ownG_nil _ _ _)
  have HNB : Hid (N < B0) := (show _ < _ by rw [← HB0.out]; exact b1.out.lt)
  clear hr hb hw1 hw2 b2
  go_enter Try.func6, Try.ntmps6
  go_upto_region 1 with fail
  change Code.wp _ _ _ _ (w.alloc (.cells (RC r).toArray 27 (0, 0)))
  rw [← HW.out, HN.out]
  go_wp2_with (first
    | (refine wpList_store_new rfl 27 _ _ rfl w1 _ #[.int .i64 1, .int .i64 0, .bool false, .slice none 0 0, .slice none 0 0] _ rfl rfl rfl Try.size27 rfl (all_one (RC_one (rlim 0 none 0))) ?_; rw [← HW2.out, HB0.out])
    | fail)
  try simp only [Act.put]
  try rw [show w1.alloc (.cells #[.int .i64 1, .int .i64 0, .bool false, .slice none 0 0, .slice none 0 0] 27 (0, 0)) = w2 from HW2.out.symm, HB0.out]
  go_loopg [7] (k + 1) (fun g z wr => ∃ (i cw : Nat) (pw : Option Addr), i ≤ k ∧ g + i = k + 1 ∧ z = .int .i64 (i : Int) ∧ Hid (Blk wr B0 27 [.int .i64 1, .int .i64 0, .bool false, .slice none 0 0, .slice pw i cw]) ∧ Hid (OwnG PE wr B0 41 (.slice pw i cw) (wsL i)) ∧ Hid (Below B0 w1 wr))
  case atStart => exact ⟨0, 0, none, Nat.zero_le _, by omega, rfl, X0, P0, L0⟩
  case round =>
    clear X0 P0 L0
    obtain ⟨i, cw, pw, hi, hg, rfl, XR, PR, LR⟩ := hrel
    by_cases hlt : i < k
    · have hlt' : (i : Int) < (k : Int) := by omega
      obtain ⟨c, Hc⟩ : ∃ c, Hid (97 + i = c) := ⟨_, rfl⟩
      have hci : (97 : Int) + (i : Int) = (c : Int) := by have := Hc.out; omega
      have hc200 : c < 200 := by have := Hc.out; omega
      have hcw : wrap64 (c : Int) = (c : Int) := by unfold wrap64; omega
      have hcw2 : IntKind.i64.wrap (c : Int) = (c : Int) := by first | exact hcw | (simp [IntKind.wrap, IntKind.bits, IntKind.signed]; omega)
      have hcu : IntKind.u8.wrap (c : Int) = (c : Int) := by simp [IntKind.wrap, IntKind.bits, IntKind.signed]; omega
      have hcn : ((UInt8.ofNat (97 + i)).toNat : Int) = (c : Int) := by rw [Hc.out, show (UInt8.ofNat c).toNat = c by simp; omega]
      go_upto_region 6 with fail
      try simp only [Act.put]
      refine wp_region_tails Try.mixed (KS (fun i_ => match i_ with | 0 => .val (.pointer (some ⟨B0, 4, none⟩)) | 1 => .val (.slice pw i cw) | 2 => .val (.int .i64 (i : Int)) | 3 => .val (.int .i64 (c : Int)) | 4 => .val (.int .u8 (c : Int)) | 5 => .rd ([UInt8.ofNat (97 + i)]) | 6 => .val (.string (lkey i)) | 7 => .rd (lzero) | 8 => .val (.string lval) | 9 => .val (.agg (PC (lpr i)).toArray) | 10 => .of (fun W x => OwnG PE W B0 41 x [lpr i]) (fun _ _ _ hg h => h.kept hg) | _ => .free)) 103 rfl (by decide +kernel) 11 (by decide) (by decide +kernel) (KS_mono _) ?_ ?_
      · refine AllFrom.cons ⟨rfl, fun a' w' hg hk hd => ?_⟩ (AllFrom.cons ⟨rfl, fun a' w' hg hk hd => ?_⟩ (AllFrom.cons ⟨rfl, fun a' w' hg hk hd => ?_⟩ (AllFrom.cons ⟨rfl, fun a' w' hg hk hd => ?_⟩ (AllFrom.cons ⟨rfl, fun a' w' hg hk hd => ?_⟩ (AllFrom.cons ⟨rfl, fun a' w' hg hk hd => ?_⟩ (AllFrom.cons ⟨rfl, fun a' w' hg hk hd => ?_⟩ (AllFrom.cons ⟨rfl, fun a' w' hg hk hd => ?_⟩ (AllFrom.cons ⟨rfl, fun a' w' hg hk hd => ?_⟩ (AllFrom.cons ⟨rfl, fun a' w' hg hk hd => ?_⟩ (AllFrom.cons ⟨rfl, fun a' w' hg hk hd => ?_⟩ AllFrom.nil))))))))))
        · skip
          intro Q
          have e6 : a'.eval (.tmp 6) = .pointer (some ⟨B0, 0, none⟩) := hk.at 6 (by decide +kernel)
          clear hd hk
          exact wp_value (.pointer (some ⟨B0, 4, none⟩)) (by simp only [execOp, e6]; go_simp) (KS_mkv rfl rfl)
        · skip
          intro Q
          have e24 : a'.eval (.tmp 24) = .pointer (some ⟨B0, 4, none⟩) := KS_val (hd.val 0 24 (by decide +kernel)) rfl
          have hc := (XR.out.kept hg).cell (j := 4) rfl
          clear hd hk
          exact wp_value (.slice pw i cw) (by simp only [execOp, e24]; go_simp) (KS_mkv rfl rfl)
        · skip
          intro Q
          have e7 : a'.eval (.tmp 7) = .int .i64 (i : Int) := hk.at 7 (by decide +kernel)
          exact wp_value _ (by simp only [execOp, e7]; rfl) (KS_mkv rfl rfl)
        · skip
          intro Q
          have e26 : a'.eval (.tmp 26) = .int .i64 (i : Int) := KS_val (hd.val 2 26 (by decide +kernel)) rfl
          clear hd hk
          exact wp_value (.int .i64 (c : Int)) (by simp only [execOp, e26]; go_simp) (KS_mkv rfl rfl)
        · skip
          intro Q
          have e27 : a'.eval (.tmp 27) = .int .i64 (c : Int) := KS_val (hd.val 3 27 (by decide +kernel)) rfl
          clear hd hk
          exact wp_value (.int .u8 (c : Int)) (by simp only [execOp, e27]; go_simp) (KS_mkv rfl rfl)
        · skip
          intro Q
          have e28 : a'.eval (.tmp 28) = .int .u8 (c : Int) := KS_val (hd.val 4 28 (by decide +kernel)) rfl
          exact wp_grow _ _ (by simp only [execOp, List.map_toArray, List.map_cons, List.map_nil, e28, Sem.run_bind, Sem.run_pure]; exact congrArg (fun r => Result.andThen r _) (build_b1 _ _)) ((Below.refl _ _).alloc (Nat.le_refl _) _) (KS_mkr rfl (own_oneS' w' w'.heap.size (Nat.le_refl _) (UInt8.ofNat (97 + i)) (c : Int) (show (c : Int) = _ from hcn.symm)).rd)
        · skip
          intro Q
          have r29 : Rd w' (a'.eval (.tmp 29)) ([UInt8.ofNat (97 + i)]) := KS_rd (hd.val 5 29 (by decide +kernel)) rfl
          exact wp_value _ (by simp only [execOp, r29.conv (P := Try.prog) 22 9 Try.underlying22 Try.underlying5 Try.underlying9, Sem.run_bind, Result.andThen_ok]; rfl) (KS_mkv rfl rfl)
        · skip
          intro Q
          exact wp_grow _ _ (by simp only [execOp, Sem.run_bind, Sem.run_pure]; exact congrArg (fun r => Result.andThen r _) (make256 _)) ((Below.refl _ _).alloc (Nat.le_refl _) _) (KS_mkr rfl (rd256 w'))
        · skip
          intro Q
          have r31 : Rd w' (a'.eval (.tmp 31)) (lzero) := KS_rd (hd.val 7 31 (by decide +kernel)) rfl
          exact wp_value _ (by simp only [execOp, r31.conv (P := Try.prog) 22 9 Try.underlying22 Try.underlying5 Try.underlying9, Sem.run_bind, Result.andThen_ok]; rfl) (KS_mkv rfl rfl)
        · skip
          intro Q
          have e30 : a'.eval (.tmp 30) = .string (lkey i) := KS_val (hd.val 6 30 (by decide +kernel)) rfl
          have e32 : a'.eval (.tmp 32) = .string lval := KS_val (hd.val 8 32 (by decide +kernel)) rfl
          clear hd hk
          exact wp_value (.agg (PC (lpr i)).toArray) (by simp only [execOp, List.map_toArray, List.map_cons, List.map_nil, e30, e32, Sem.run_bind, Sem.run_pure]; exact congrArg (fun r => Result.andThen r _) (build_kvl _ _ _)) (KS_mkv rfl rfl)
        · skip
          intro Q
          have e33 : a'.eval (.tmp 33) = .agg (PC (lpr i)).toArray := KS_val (hd.val 9 33 (by decide +kernel)) rfl
          exact wp_grow _ _ (by simp only [execOp, List.map_toArray, List.map_cons, List.map_nil, e33, Sem.run_bind, Sem.run_pure]; exact congrArg (fun r => Result.andThen r _) (build_pairs1 (lpr i) _)) ((Below.refl _ _).alloc (Nat.le_refl _) _) (KS_mko rfl (ownG_one (E := PE) w' B0 41 (lpr i) (Nat.le_trans (Nat.le_of_lt XR.out.lt) hg.size)))
      · intro a' w4 hsz hdf hk hall hg
        have X4 := hide (XR.out.kept hg)
        have P4 := hide (PR.out.kept hg)
        have L4 : Hid (Below B0 w1 w4) := (show Below _ _ _ from LR.out.trans (hg.mono (by have := XR.out.lt; omega)))
        have e24 : a'.eval (.tmp 24) = .pointer (some ⟨B0, 4, none⟩) := KS_val (hall 0 _ 24 (by decide) rfl rfl) rfl
        have e25 : a'.eval (.tmp 25) = .slice pw i cw := KS_val (hall 1 _ 25 (by decide) rfl rfl) rfl
        have e26 : a'.eval (.tmp 26) = .int .i64 (i : Int) := KS_val (hall 2 _ 26 (by decide) rfl rfl) rfl
        have e27 : a'.eval (.tmp 27) = .int .i64 (c : Int) := KS_val (hall 3 _ 27 (by decide) rfl rfl) rfl
        have e28 : a'.eval (.tmp 28) = .int .u8 (c : Int) := KS_val (hall 4 _ 28 (by decide) rfl rfl) rfl
        obtain ⟨x29, hx29⟩ : ∃ v, a'.eval (.tmp 29) = v := ⟨_, rfl⟩
        have e30 : a'.eval (.tmp 30) = .string (lkey i) := KS_val (hall 6 _ 30 (by decide) rfl rfl) rfl
        obtain ⟨x31, hx31⟩ : ∃ v, a'.eval (.tmp 31) = v := ⟨_, rfl⟩
        have e32 : a'.eval (.tmp 32) = .string lval := KS_val (hall 8 _ 32 (by decide) rfl rfl) rfl
        have e33 : a'.eval (.tmp 33) = .agg (PC (lpr i)).toArray := KS_val (hall 9 _ 33 (by decide) rfl rfl) rfl
        have r34 := KS_of (hall 10 _ 34 (by decide) rfl rfl) rfl
        obtain ⟨x34, hx34⟩ : ∃ v, a'.eval (.tmp 34) = v := ⟨_, rfl⟩
        rw [hx34] at r34
        obtain ⟨x35, hx35⟩ : ∃ v, a'.eval (.tmp 35) = v := ⟨_, rfl⟩
        obtain ⟨x36, hx36⟩ : ∃ v, a'.eval (.tmp 36) = v := ⟨_, rfl⟩
        have ha := act_puts 103 rfl hsz hdf hk [24, 25, 26, 27, 28, 29, 30, 31, 32, 33, 34, 35, 36] (by decide +kernel)
        simp only [puts, List.foldl_cons, List.foldl_nil, e24, e25, e26, e27, e28, hx29, e30, hx31, e32, e33, hx34, hx35, hx36] at ha
        simp only [Act.put, List.setIfInBounds_toArray, List.set_cons_succ, List.set_cons_zero] at ha
        clear hall hk hsz hdf e24 e25 e26 e27 e28 hx29 e30 hx31 e32 e33 hx34 hx35 hx36
        subst ha
        have O34 := hide r34
        clear r34 hg
        try clear r29
        try clear r31
        have HL9 : Hid ((wsL i).length + [lpr i].length ≤ 10000000) := (show _ ≤ _ by rw [wsL_len, List.length_singleton]; omega)
        have ZW : Hid (B0 ≤ w4.heap.size) := (show _ ≤ _ from Nat.le_of_lt X4.out.lt)
        refine ⟨rfl, ?_⟩
        refine wp_append_E (E := PE) Try.underlying25 infoP9 (by decide) (.tmp 25) (.tmp 34) rfl B0 (.slice pw i cw) (wsL i) rfl P4.out x34 [lpr i] rfl O34.out.rd HL9.out ZW.out ?_
        intro v9 w5 o9 g9_ q9
        obtain ⟨a9, c9, hv9⟩ := o9.form
        rw [← wsL_succ] at o9 hv9
        rw [wsL_len] at hv9
        subst hv9
        have K5 : Chg (fun b => (Value.slice pw i cw).ownBlock = some b) w4 w5 := Chg.of_grown g9_ (fun k e _ => e)
        have X5 := hide (X4.out.chg K5 (fun e => by obtain ⟨_, _, cu, h5⟩ := P4.out.block e; exact absurd rfl (cells_ne h5 X4.out (by decide))))
        have L5 : Hid (Below B0 w1 w5) := (show Below _ _ _ from L4.out.trans (K5.below ZW.out (fun k hk e => by have := (P4.out.block e).1; omega)))
        have O5 := hide o9
        clear o9 g9_ q9 K5
        refine ⟨_, rfl, ?_⟩
        refine wpSeq_val rfl (.pointer (some ⟨B0, 4, none⟩)) (by simp only [execOp]; go_simp) ?_
        refine wpSeq_store_sl rfl 25 szs _ _ rfl B0 4 27 _ _ _ _ rfl rfl X5.out (show 4 < 5 by decide) ?_
        intro w6 hb6 hu6
        have C6 : Chg (fun k => k = B0) w5 w6 := Chg.of_but hu6 rfl
        have X6 : Hid (Blk w6 B0 27 [.int .i64 1, .int .i64 0, .bool false, .slice none 0 0, .slice a9 (i + 1) c9]) := (show Blk _ _ _ _ from hb6)
        have O6 := hide (O5.out.chg C6 (fun j hj e => by obtain ⟨_, _, cu, h5⟩ := O5.out.block hj; exact cells_ne h5 X5.out (by decide) e))
        have L6 : Hid (Below B0 w1 w6) := (show Below _ _ _ from L5.out.trans (hu6.below (Nat.le_refl _) (Nat.le_of_lt X5.out.lt)))
        clear hb6 hu6 C6
        simp only [wpSeq]
        go_wp2_with fail
        go_roundg (k - i)
        case measure => omega
        case rel => exact ⟨i + 1, c9, a9, by omega, by omega, by go_num, X6, O6, L6⟩
    · obtain rfl : i = k := by omega
      have hlt' : ¬ (i : Int) < i := by omega
      obtain ⟨q, Hq⟩ : ∃ q : Rc, Hid (q = rlim i pw cw) := ⟨_, rfl⟩
      have HQC : Hid (RC q = [.int .i64 1, .int .i64 0, .bool false, .slice none 0 0, .slice pw i cw]) := (show _ = _ by rw [Hq.out]; unfold RC rlim; simp only [wsL_len, List.length_nil])
      have HQS : Hid (soundP q = true ∧ (eD (pdR q)).length = 5 + 262 * i) := (show _ ∧ _ by rw [Hq.out]; exact ⟨rlim_sound hk34 _ _, rlim_len hk34 _ _⟩)
      have QO : Hid (ROk wr q) := (show ROk _ _ from ⟨by rw [Hq.out]; exact RdX.nil wr, by rw [Hq.out]; unfold wv rlim; simp only [wsL_len]; exact PR.out.rd⟩)
      have XQ : Hid (Blk wr B0 27 (RC q)) := (show Blk _ _ _ _ by rw [HQC.out]; exact XR.out)
      have N3 : Hid (N < B0 ∧ B0 ≤ wr.heap.size) := (show _ ∧ _ from ⟨HNB.out, Nat.le_of_lt XR.out.lt⟩)
      have L3 : Hid (Below w1.heap.size w1 wr) := (show Below _ _ _ by rw [HB0.out]; exact LR.out)
      clear XR PR LR HQC Hq
      obtain ⟨y, HY⟩ : ∃ z, Hid (eD (pdR q) = z) := ⟨_, rfl⟩
      obtain ⟨m, Hm⟩ : ∃ z, Hid (y.length = z) := ⟨_, rfl⟩
      have hm0 : Hid (m = 5 + 262 * i) := (show _ = _ by rw [← Hm.out, ← HY.out]; exact HQS.out.2)
      have HBY : Hid (bytesP q = y) := (show _ = _ by unfold bytesP; rw [if_pos HQS.out.1, HY.out])
      have HGQ : Hid (goodR q = decide (m ≤ 8192)) := (show _ = _ by unfold goodR; rw [HQS.out.1, Bool.true_and, HY.out, Hm.out])
      have CB := hide (jbytes_any QO.out)
      rw [HBY.out] at CB
      have rk := XQ.out.range0
      go_wp2_with (first
        | (refine wpList_load_mid rfl 27 _ rfl B0 0 rfl (RC q) _ rk Try.underlying27 rfl Try.size27 ?_)
        | fail)
      refine CB.out.mono ?_
      rintro e w7 ⟨v7, rfl, o7, hb7⟩
      have L7 : Hid (Below w1.heap.size w1 w7) := (show Below _ _ _ from L3.out.trans (hb7.mono L3.out.size))
      have XQ7 := hide (XQ.out.kept hb7)
      have QO7 := hide (QO.out.kept hb7)
      have hr7 := o7.rd
      obtain ⟨a7, c7, hv7⟩ := hr7.slice
      rw [Hm.out] at hv7
      subst hv7
      have CR := hide (jread16_any hr7 (by rw [Hm.out]; have := hm0.out; omega))
      clear o7 hb7 CB rk XQ QO
      go_wp2_with fail
      refine CR.out.mono ?_
      rintro e w8 ⟨⟨Y, x2, rfl, oy, hy⟩, hb8⟩
      have L8 : Hid (Below w1.heap.size w1 w8) := (show Below _ _ _ from L7.out.trans (hb8.mono L7.out.size))
      have hx2 : (m ≤ 8192 → x2 = 0) ∧ (¬ m ≤ 8192 → x2 = 4) := by
        rcases hy with ⟨g1, g2, g3, g4⟩ | ⟨g1, g2, g3⟩
        · rw [Hm.out] at g4
          exact ⟨fun _ => g1, fun h => absurd g4 h⟩
        · have := g3 q HQS.out.1 HY.out
          rw [Hm.out] at this
          exact ⟨fun h => by omega, fun _ => g1⟩
      clear hy
      obtain ⟨D, HD⟩ : ∃ z, Hid (w8.heap.size = z) := ⟨_, rfl⟩
      obtain ⟨w9, hw9⟩ : ∃ y, y = w8.alloc (.cells (RC Y).toArray 27 (0, 0)) := ⟨_, rfl⟩
      obtain ⟨b9, l9⟩ := newB HD hw9
      have HW9 := hide hw9
      have L9 : Hid (Below w1.heap.size w1 w9) := (show Below _ _ _ from L8.out.trans (l9.out.mono L8.out.size))
      have XQ9 := hide ((XQ7.out.kept hb8).kept l9.out)
      have CG := hide (jgood_any ((QO7.out.kept hb8).kept l9.out))
      rw [HGQ.out] at CG
      have rk := XQ9.out.range0
      clear hw9 oy hb8 CR XQ7 QO7
      go_upto_region 9 with (first
        | (refine wpList_store_new rfl 27 _ _ rfl w8 _ (RC Y).toArray _ rfl rfl rfl Try.size27 rfl (all_one (RC_one Y)) ?_; rw [← HW9.out, HD.out])
        | fail)
      try simp only [Act.put]
      have h256 : (256 : Int) * (i : Int) = ((256 * i : Nat) : Int) := by omega
      obtain ⟨p9, Hp9⟩ : ∃ z, Hid (256 * i = z) := ⟨_, rfl⟩
      rw [Hp9.out] at h256
      have hwp : wrap64 (p9 : Int) = (p9 : Int) := by have := Hp9.out; unfold wrap64; omega
      have hmp : ¬ m < p9 := by have := Hp9.out; have := hm0.out; omega
      by_cases hm8 : m ≤ 8192
      · have hx0 : x2 = 0 := hx2.1 hm8
        subst hx0
        clear hx2
        have q8 : decide ((m : Int) ≤ 8192) = true := decide_eq_true (by omega)
        rw [decide_eq_true hm8] at CG
        go_wp2_with (first
          | (refine wpList_load_mid rfl 27 _ rfl B0 0 rfl (RC q) _ rk Try.underlying27 rfl Try.size27 ?_)
          | fail)
        refine CG.out.mono ?_
        rintro e w10 ⟨rfl, hb10⟩
        have L10 : Hid (Below w1.heap.size w1 w10) := (show Below _ _ _ from L9.out.trans (hb10.mono L9.out.size))
        have CL := hide (mlight_any (RO.out.kept L10.out) HBR.out)
        have rk := (b1.out.kept L10.out).range0
        clear hb10 CG XQ9
        go_wp2_with (first
          | (refine wpList_load_mid rfl 27 _ rfl N 0 rfl (RC r) _ rk Try.underlying27 rfl Try.size27 ?_)
          | fail)
        refine CL.out.mono ?_
        rintro e w11 ⟨lb, rfl, hlt, hb11⟩
        have L11 : Hid (Below w1.heap.size w1 w11) := (show Below _ _ _ from L10.out.trans (hb11.mono L10.out.size))
        have HLT := hide hlt
        clear hb11 CL rk hlt
        cases lb with
        | false =>
          have CV := hide (lives_any w11)
          go_wp2_with fail
          refine CV.out.mono ?_
          rintro e w99 ⟨rfl, hb99⟩
          have L99 : Hid (Below w.heap.size w w99) := (show Below _ _ _ from l1.out.trans ((L11.out.trans (hb99.mono L11.out.size)).mono l1.out.size))
          clear hb99 CV
          go_wp2_with fail
          go_ret
          exact ⟨rfl, L99.out⟩
        | true =>
          have LT := hide (HLT.out rfl)
          have CG := hide (jgood_any (RO.out.kept L11.out))
          obtain ⟨g1, HG1⟩ : ∃ z, Hid (goodR r = z) := ⟨_, rfl⟩
          rw [HG1.out] at CG
          have rk := (b1.out.kept L11.out).range0
          go_wp2_with (first
            | (refine wpList_load_mid rfl 27 _ rfl N 0 rfl (RC r) _ rk Try.underlying27 rfl Try.size27 ?_)
            | (refine wpList_load_w9 rfl 27 _ rfl N 0 rfl (RC r) _ rk Try.underlying27 rfl Try.size27 ?_)
            | fail)
          refine CG.out.mono ?_
          rintro e w12 ⟨rfl, hb12⟩
          have L12 : Hid (Below w1.heap.size w1 w12) := (show Below _ _ _ from L11.out.trans (hb12.mono L11.out.size))
          clear hb12 CG rk
          cases g1 with
          | false =>
            have CV := hide (lives_any w12)
            go_wp2_with fail
            refine CV.out.mono ?_
            rintro e w99 ⟨rfl, hb99⟩
            have L99 : Hid (Below w.heap.size w w99) := (show Below _ _ _ from l1.out.trans ((L12.out.trans (hb99.mono L12.out.size)).mono l1.out.size))
            clear hb99 CV
            go_wp2_with fail
            go_ret
            exact ⟨rfl, L99.out⟩
          | true =>
            go_upto_region 13 with fail
            try simp only [Act.put]
            have BR := hide (b1.out.kept L12.out)
            refine wp_region_cells Try.mixed (KS (fun i_ => match i_ with | 0 | 1 | 2 => .val (.agg (RC r).toArray) | _ => .free)) [⟨3, 11, 6, 27, RC zr, RC r⟩, ⟨4, 12, 7, 27, RC zr, RC r⟩, ⟨5, 13, 8, 27, RC zr, RC r⟩] 103 rfl (by decide +kernel) (KS_mono_val _ (fun i => by split <;> exact fun _ _ _ h => h)) (by intro c hc c' hc' e; simp only [List.mem_cons, List.not_mem_nil, or_false] at hc hc'; rcases hc with rfl | rfl | rfl <;> rcases hc' with rfl | rfl | rfl <;> first | rfl | (simp at e)) (by intro c hc c' hc' e; simp only [List.mem_cons, List.not_mem_nil, or_false] at hc hc'; rcases hc with rfl | rfl | rfl <;> rcases hc' with rfl | rfl | rfl <;> first | rfl | (simp at e)) (by intro c hc; simp only [List.mem_cons, List.not_mem_nil, or_false] at hc; rcases hc with rfl | rfl | rfl <;> rfl) ?_ ?_
            · refine AllFrom.cons ?_ (AllFrom.cons ?_ (AllFrom.cons ?_ (AllFrom.cons ?_ (AllFrom.cons ?_ (AllFrom.cons ?_ (AllFrom.cons ?_ (AllFrom.cons ?_ (AllFrom.cons ?_ AllFrom.nil))))))))
              · skip
                refine .val rfl (notI rfl) (notS rfl) (fun a' w' hb hk hd Q => ?_)
                have e2 : a'.eval (.tmp 2) = .pointer (some ⟨N, 0, none⟩) := hk.at 2 (by decide +kernel)
                exact wp_load_row 27 _ rfl _ _ e2 (RC r) _ (BR.out.kept hb).range0 Try.underlying27 rfl (Try.size27) (KS_mkv rfl rfl)
              · skip
                refine .val rfl (notI rfl) (notS rfl) (fun a' w' hb hk hd Q => ?_)
                have e2 : a'.eval (.tmp 2) = .pointer (some ⟨N, 0, none⟩) := hk.at 2 (by decide +kernel)
                exact wp_load_row 27 _ rfl _ _ e2 (RC r) _ (BR.out.kept hb).range0 Try.underlying27 rfl (Try.size27) (KS_mkv rfl rfl)
              · skip
                refine .val rfl (notI rfl) (notS rfl) (fun a' w' hb hk hd Q => ?_)
                have e2 : a'.eval (.tmp 2) = .pointer (some ⟨N, 0, none⟩) := hk.at 2 (by decide +kernel)
                exact wp_load_row 27 _ rfl _ _ e2 (RC r) _ (BR.out.kept hb).range0 Try.underlying27 rfl (Try.size27) (KS_mkv rfl rfl)
              · skip
                refine .new rfl _ (List.Mem.head _) rfl (notS rfl) rfl (fun a' w' => ?_)
                simp only [execOp]; go_simp
              · skip
                refine .new rfl _ (List.Mem.tail _ (List.Mem.head _)) rfl (notS rfl) rfl (fun a' w' => ?_)
                simp only [execOp]; go_simp
              · skip
                refine .new rfl _ (List.Mem.tail _ (List.Mem.tail _ (List.Mem.head _))) rfl (notS rfl) rfl (fun a' w' => ?_)
                simp only [execOp]; go_simp
              · skip
                refine .put rfl _ (List.Mem.head _) (notI rfl) rfl rfl (.tmp 74) rfl (by kernel_rfl) (fun a' w' hb hk hd => ?_) rfl Try.size27 (RC_one r)
                have e74 : a'.eval (.tmp 74) = .agg (RC r).toArray := KS_val (hd 0 74 (by decide +kernel) (notI rfl)) rfl
                exact e74
              · skip
                refine .put rfl _ (List.Mem.tail _ (List.Mem.head _)) (notI rfl) rfl rfl (.tmp 75) rfl (by kernel_rfl) (fun a' w' hb hk hd => ?_) rfl Try.size27 (RC_one r)
                have e75 : a'.eval (.tmp 75) = .agg (RC r).toArray := KS_val (hd 1 75 (by decide +kernel) (notI rfl)) rfl
                exact e75
              · skip
                refine .put rfl _ (List.Mem.tail _ (List.Mem.tail _ (List.Mem.head _))) (notI rfl) rfl rfl (.tmp 76) rfl (by kernel_rfl) (fun a' w' hb hk hd => ?_) rfl Try.size27 (RC_one r)
                have e76 : a'.eval (.tmp 76) = .agg (RC r).toArray := KS_val (hd 2 76 (by decide +kernel) (notI rfl)) rfl
                exact e76
            · intro a' w13 hsz hdf hk hall hb13 hB
              obtain ⟨B, hB1, hB2⟩ := hB
              obtain ⟨e11, z11, c11⟩ := hB1 _ (List.Mem.head _) (show (3 : Nat) < 9 by decide) (show (6 : Nat) < 9 by decide)
              obtain ⟨e12, z12, c12⟩ := hB1 _ (List.Mem.tail _ (List.Mem.head _)) (show (4 : Nat) < 9 by decide) (show (7 : Nat) < 9 by decide)
              obtain ⟨e13, z13, c13⟩ := hB1 _ (List.Mem.tail _ (List.Mem.tail _ (List.Mem.head _))) (show (5 : Nat) < 9 by decide) (show (8 : Nat) < 9 by decide)
              have n12 := hB2 _ (List.Mem.head _) _ (List.Mem.tail _ (List.Mem.head _)) (show (3 : Nat) < 9 by decide) (show (4 : Nat) < 9 by decide) (show (3 : Nat) ≠ 4 by decide)
              have n13 := hB2 _ (List.Mem.head _) _ (List.Mem.tail _ (List.Mem.tail _ (List.Mem.head _))) (show (3 : Nat) < 9 by decide) (show (5 : Nat) < 9 by decide) (show (3 : Nat) ≠ 5 by decide)
              have n23 := hB2 _ (List.Mem.tail _ (List.Mem.head _)) _ (List.Mem.tail _ (List.Mem.tail _ (List.Mem.head _))) (show (4 : Nat) < 9 by decide) (show (5 : Nat) < 9 by decide) (show (4 : Nat) ≠ 5 by decide)
              simp only at e11 e12 e13 z11 z12 z13 c11 c12 c13 n12 n13 n23
              generalize B 3 = o1 at *
              generalize B 4 = o2 at *
              generalize B 5 = o3 at *
              have e74 : a'.eval (.tmp 74) = .agg (RC r).toArray := KS_val (hall 0 _ 74 rfl (fun c hc e => by simp only [List.mem_cons, List.not_mem_nil, or_false] at hc; rcases hc with rfl | rfl | rfl <;> cases e) rfl) rfl
              have e75 : a'.eval (.tmp 75) = .agg (RC r).toArray := KS_val (hall 1 _ 75 rfl (fun c hc e => by simp only [List.mem_cons, List.not_mem_nil, or_false] at hc; rcases hc with rfl | rfl | rfl <;> cases e) rfl) rfl
              have e76 : a'.eval (.tmp 76) = .agg (RC r).toArray := KS_val (hall 2 _ 76 rfl (fun c hc e => by simp only [List.mem_cons, List.not_mem_nil, or_false] at hc; rcases hc with rfl | rfl | rfl <;> cases e) rfl) rfl
              have L13 : Hid (Below w1.heap.size w1 w13) := (show Below _ _ _ from L12.out.trans (hb13.mono L12.out.size))
              have BR13 := hide (BR.out.kept hb13)
              have O1 := hide c11
              have O2 := hide c12
              have O3 := hide c13
              have NE : Hid (o1 ≠ o2 ∧ o1 ≠ o3 ∧ o2 ≠ o3) := (show _ ∧ _ from ⟨n12, n13, n23⟩)
              have Z1 : Hid (w1.heap.size ≤ o1 ∧ w1.heap.size ≤ o2 ∧ w1.heap.size ≤ o3) := (show _ ∧ _ from by have := L12.out.size; exact ⟨Nat.le_trans this z11, Nat.le_trans this z12, Nat.le_trans this z13⟩)
              have ha := act_puts 103 rfl hsz hdf hk [74, 75, 76, 11, 12, 13] (by decide +kernel)
              simp only [puts, List.foldl_cons, List.foldl_nil, e74, e75, e76, e11, e12, e13] at ha
              simp only [Act.put, List.setIfInBounds_toArray, List.set_cons_succ, List.set_cons_zero] at ha
              clear hall hk hsz hdf hB1 hB2 e74 e75 e76 e11 e12 e13 z11 z12 z13 c11 c12 c13 n12 n13 n23 hb13
              subst ha
              have HRCr : Hid (RC r = [.int .i64 r.ses, .int .i64 r.snap, .bool r.st, rv r, wv r]) := (show _ = _ from rfl)
              obtain ⟨w14, hw14⟩ : ∃ z, z = w13.setCell ⟨o1, 0, none⟩ (.int .i64 9) := ⟨_, rfl⟩
              have U14 : Hid (But o1 w13 w14) := (show But _ _ _ by rw [hw14]; exact But.setCell o1 w13 0 (.int .i64 9))
              have O14 : Hid (Blk w14 o1 27 (RC { r with ses := 9 })) := (show Blk _ _ _ _ by rw [hw14]; exact O1.out.set 0 (.int .i64 9))
              have HW14 := hide hw14
              have C14 : Hid (Chg (fun k => k = o1) w13 w14) := (show Chg _ _ _ from Chg.of_but U14.out rfl)
              have O24 := hide (O2.out.chg C14.out (fun e => NE.out.1 e.symm))
              have O34 := hide (O3.out.chg C14.out (fun e => NE.out.2.1 e.symm))
              have BR14 := hide (BR13.out.chg C14.out (fun e => by have h1 := Z1.out.1; have h2 := b1.out.lt; omega))
              have L14 : Hid (Below w1.heap.size w1 w14) := (show Below _ _ _ from L13.out.trans (U14.out.below Z1.out.1 L13.out.size))
              obtain ⟨w15, hw15⟩ : ∃ z, z = w14.setCell ⟨o2, 1, none⟩ (.int .i64 (-1)) := ⟨_, rfl⟩
              have U15 : Hid (But o2 w14 w15) := (show But _ _ _ by rw [hw15]; exact But.setCell o2 w14 1 (.int .i64 (-1)))
              have O25 : Hid (Blk w15 o2 27 (RC { r with snap := -1 })) := (show Blk _ _ _ _ by rw [hw15]; exact O24.out.set 1 (.int .i64 (-1)))
              have HW15 := hide hw15
              have C15 : Hid (Chg (fun k => k = o2) w14 w15) := (show Chg _ _ _ from Chg.of_but U15.out rfl)
              have O15 := hide (O14.out.chg C15.out NE.out.1)
              have O35 := hide (O34.out.chg C15.out (fun e => NE.out.2.2 e.symm))
              have BR15 := hide (BR14.out.chg C15.out (fun e => by have h1 := Z1.out.2.1; have h2 := b1.out.lt; omega))
              have L15 : Hid (Below w1.heap.size w1 w15) := (show Below _ _ _ from L14.out.trans (U15.out.below Z1.out.2.1 L14.out.size))
              clear hw14 hw15
              have hf1 := O1.out.frozen 0
              have d1 := O1.out.cell (j := 0) rfl
              go_upto_region 15 with fail
              change Code.wp _ _ _ _ (w13.setCell ⟨o1, 0, none⟩ (.int .i64 9))
              rw [← HW14.out]
              clear hf1 d1
              have hf2 := O24.out.frozen 1
              have d2 := O24.out.cell (j := 1) rfl
              go_upto_region 16 with fail
              change Code.wp _ _ _ _ (w14.setCell ⟨o2, 1, none⟩ (.int .i64 (-1)))
              rw [← HW15.out]
              clear hf2 d2 O1 O2 O3 O14 O24 O34 BR13 BR14
              obtain ⟨ws, Hws⟩ : ∃ z, Hid (r.ws = z) := ⟨_, rfl⟩
              obtain ⟨mw, Hmw⟩ : ∃ z, Hid (ws.length = z) := ⟨_, rfl⟩
              obtain ⟨wa, Hwa⟩ : ∃ z, Hid (r.wa = z) := ⟨_, rfl⟩
              obtain ⟨wc, Hwc⟩ : ∃ z, Hid (r.wc = z) := ⟨_, rfl⟩
              have hmw : mw ≤ 100 := by have := LT.out.wl; rw [Hws.out, Hmw.out] at this; exact this
              have HWV : Hid (wv r = .slice wa mw wc) := (show _ = _ by unfold wv; rw [Hws.out, Hmw.out, Hwa.out, Hwc.out])
              have RO15 := hide (RO.out.kept L15.out)
              have PW : Hid (RdG PE w15 (.slice wa mw wc) ws) := (show RdG _ _ _ _ by have h := RO15.out.ws; rw [HWV.out, Hws.out] at h; exact h)
              obtain ⟨w16, hw16⟩ : ∃ y, y = w15.alloc (.cells #[] 41 (0, 0)) := ⟨_, rfl⟩
              have l16 : Hid (Below w15.heap.size w15 w16) := (show Below _ _ _ by rw [hw16]; exact (Below.refl _ _).alloc (Nat.le_refl _) _)
              obtain ⟨F0, HF0⟩ : ∃ z, Hid (w15.heap.size = z) := ⟨_, rfl⟩
              have G16 : Hid (OwnG PE w16 F0 41 (.slice (some ⟨w15.heap.size, 0, none⟩) 0 0) []) := (show OwnG _ _ _ _ _ _ by rw [hw16]; exact ownG_none (E := PE) w15 F0 41 (by rw [HF0.out]; exact Nat.le_refl _))
              have HW16 := hide hw16
              clear hw16
              have HZ16 : Hid (F0 ≤ w16.heap.size) := (show _ ≤ _ by have := l16.out.size; have := HF0.out; omega)
              have HLa : Hid (([] : List Pr).length + ws.length ≤ 10000000) := (show _ ≤ _ by rw [List.length_nil, Hmw.out]; omega)
              have PW16 := hide (PW.out.kept l16.out)
              have hp0 := build_p0
              have hpz := build_pz
              have d4 : w16.cell? ⟨N, 4, none⟩ = some (.slice wa mw wc) := by have h := (BR15.out.kept l16.out).cell (j := 4) (v := wv r) rfl; rw [HWV.out] at h; exact h
              go_upto_region 17 with (first
                | (refine wpList_run rfl (.slice (some ⟨w15.heap.size, 0, none⟩) 0 0) (w1 := w15.alloc (.cells #[] 41 (0, 0))) (by simp only [execOp, List.map_nil, List.map_toArray, Sem.run_bind, Sem.run_pure]; exact congrArg (fun r => Result.andThen r _) (build_p0 _)) ?_; rw [← HW16.out])
                | (refine wpList_append_E (E := PE) Try.underlying25 infoP9 (by decide) rfl (.tmp 79) (.tmp 81) rfl F0 (.slice (some ⟨w15.heap.size, 0, none⟩) 0 0) [] rfl G16.out (.slice wa mw wc) ws rfl PW16.out HLa.out HZ16.out ?_; intro v9 w17 o9 g9 q9; rw [List.nil_append] at o9; obtain ⟨a9, c9, hv9⟩ := o9.form; rw [Hmw.out] at hv9; subst hv9; have K17 : Hid (Chg (fun b => F0 ≤ b) w16 w17) := (show Chg _ _ _ from Chg.of_grown g9 (fun k e _ => (G16.out.block e).1)); have O17 := hide o9; clear o9 g9 q9; obtain ⟨w18, hw18⟩ : ∃ y, y = w17.alloc (.cells (PE.c (em, em, false)).toArray 41 (0, 0)) := ⟨_, rfl⟩; have l18 : Hid (Below w17.heap.size w17 w18) := (show Below _ _ _ by rw [hw18]; exact (Below.refl _ _).alloc (Nat.le_refl _) _); have R18 : Hid (RdG PE w18 (.slice (some ⟨w17.heap.size, 0, none⟩) 1 1) [(em, em, false)]) := (show RdG _ _ _ _ by rw [hw18]; exact rdG_one (E := PE) w17 41 (em, em, false)); have HW18 := hide hw18; clear hw18; have O18 := hide (O17.out.kept l18.out); have HLb : Hid (ws.length + [((em, em, false) : Pr)].length ≤ 10000000) := (show _ ≤ _ by rw [List.length_singleton, Hmw.out]; omega); have HZ18 : Hid (F0 ≤ w18.heap.size) := (show _ ≤ _ by have h1 := HZ16.out; have h2 := K17.out.size; have h3 := l18.out.size; omega))
                | (refine wpList_build1E (E := PE) build_pairs1 rfl _ rfl (em, em, false) rfl ?_; change wpList _ _ _ _ _ (w17.alloc (.cells (PE.c (em, em, false)).toArray 41 (0, 0))); rw [← HW18.out])
                | (refine wpList_append_E (E := PE) Try.underlying25 infoP9 (by decide) rfl (.tmp 82) (.tmp 84) rfl F0 (.slice a9 mw c9) ws rfl O18.out (.slice (some ⟨w17.heap.size, 0, none⟩) 1 1) [(em, em, false)] rfl R18.out HLb.out HZ18.out ?_; intro v8 w19 o8 g8 q8; obtain ⟨a8, c8, hv8⟩ := o8.form; have hn8 : (ws ++ [((em, em, false) : Pr)]).length = mw + 1 := (by rw [List.length_append, List.length_singleton, Hmw.out]); rw [hn8] at hv8; subst hv8; have K19 : Hid (Chg (fun b => F0 ≤ b) w15 w19) := (show Chg _ _ _ from (((Chg.of_below l16.out).trans K17.out).trans (Chg.of_below l18.out)).trans (Chg.of_grown g8 (fun k e _ => (O18.out.block e).1))); have O19 := hide o8; have HN8 := hide hn8; clear o8 g8 q8 hn8; have H3 := hide (O35.out.chg K19.out (fun e => by have h1 := O35.out.lt; rw [HF0.out] at h1; omega)))
                | (refine wpList_store_sl rfl 25 szs _ _ rfl o3 4 27 _ _ _ _ rfl rfl H3.out (show 4 < 5 by decide) ?_; intro w20 hb20 hu20)
                | fail)
              try simp only [Act.put]
              have C20 : Hid (Chg (fun k => k = o3) w19 w20) := (show Chg _ _ _ from Chg.of_but hu20 rfl)
              have L19 : Hid (Below w1.heap.size w1 w19) := (show Below _ _ _ from L15.out.trans (K19.out.below L15.out.size (fun k hk e => by have h1 := L15.out.size; have h2 := HF0.out; omega)))
              have L20 : Hid (Below w1.heap.size w1 w20) := (show Below _ _ _ from L19.out.trans (hu20.below Z1.out.2.2 L19.out.size))
              have R20 := hide (RO.out.kept L20.out)
              have X1 : Hid (Blk w20 o1 27 (RC { r with ses := 9 })) := (show Blk _ _ _ _ from (O15.out.chg K19.out (fun e => by have h1 := O15.out.lt; rw [HF0.out] at h1; omega)).chg C20.out NE.out.2.1)
              have X2 : Hid (Blk w20 o2 27 (RC { r with snap := -1 })) := (show Blk _ _ _ _ from (O25.out.chg K19.out (fun e => by have h1 := O25.out.lt; rw [HF0.out] at h1; omega)).chg C20.out NE.out.2.2)
              have OW : Hid (RdG PE w20 (.slice a8 (mw + 1) c8) (ws ++ [(em, em, false)])) := (show RdG _ _ _ _ from (O19.out.chg C20.out (fun j hj e => by obtain ⟨_, _, cu, h5⟩ := O19.out.block hj; exact cells_ne h5 H3.out (by decide) e)).rd)
              have HV3 : Hid (wv { r with ws := r.ws ++ [(em, em, false)], wa := a8, wc := c8 } = .slice a8 (mw + 1) c8) := (show _ = _ by unfold wv; simp only [Hws.out, HN8.out])
              have Q3 : Hid (ROk w20 { r with ws := r.ws ++ [(em, em, false)], wa := a8, wc := c8 }) := (show ROk _ _ from ⟨R20.out.rs, by rw [HV3.out]; simp only [Hws.out]; exact OW.out⟩)
              have X3 : Hid (Blk w20 o3 27 (RC { r with ws := r.ws ++ [(em, em, false)], wa := a8, wc := c8 })) := (show Blk _ _ _ _ by rw [show RC { r with ws := r.ws ++ [(em, em, false)], wa := a8, wc := c8 } = [.int .i64 r.ses, .int .i64 r.snap, .bool r.st, rv r, wv { r with ws := r.ws ++ [(em, em, false)], wa := a8, wc := c8 }] from rfl, HV3.out]; exact hb20)
              have Q1 : Hid (ROk w20 { r with ses := 9 }) := (show ROk _ _ from ⟨R20.out.rs, R20.out.ws⟩)
              have Q2 : Hid (ROk w20 { r with snap := -1 }) := (show ROk _ _ from ⟨R20.out.rs, R20.out.ws⟩)
              obtain ⟨r1, Hr1⟩ : ∃ z, Hid (({ r with ses := 9 } : Rc) = z) := ⟨_, rfl⟩
              obtain ⟨r2, Hr2⟩ : ∃ z, Hid (({ r with snap := -1 } : Rc) = z) := ⟨_, rfl⟩
              obtain ⟨r3, Hr3⟩ : ∃ z, Hid (({ r with ws := r.ws ++ [(em, em, false)], wa := a8, wc := c8 } : Rc) = z) := ⟨_, rfl⟩
              have b1g : goodR r1 = false := by rw [← Hr1.out]; exact bad_one r
              have b2g : goodR r2 = false := by rw [← Hr2.out]; exact bad_two r
              have b3g : goodR r3 = false := by rw [← Hr3.out]; exact bad_three r a8 c8
              rw [Hr1.out] at X1 Q1
              rw [Hr2.out] at X2 Q2
              rw [Hr3.out] at X3 Q3
              clear HV3 OW R20 C20 L19 hb20 hu20 O19 HN8 H3 K19 O15 O25 O35
              have CG := hide (jgood_any Q1.out)
              rw [b1g] at CG
              have rk := X1.out.range0
              go_wp2_with (first
                | (refine wpList_load_mid rfl 27 _ rfl o1 0 rfl (RC r1) _ rk Try.underlying27 rfl Try.size27 ?_)
                | fail)
              refine CG.out.mono ?_
              rintro e w21 ⟨rfl, hb21⟩
              have L21 : Hid (Below w1.heap.size w1 w21) := (show Below _ _ _ from L20.out.trans (hb21.mono L20.out.size))
              have X22 := hide (X2.out.kept hb21)
              have X32 := hide (X3.out.kept hb21)
              have Q32 := hide (Q3.out.kept hb21)
              have CG2 := hide (jgood_any (Q2.out.kept hb21))
              rw [b2g] at CG2
              have rk2 := X22.out.range0
              clear hb21 CG rk X1 Q1 X2 Q2 X3 Q3
              go_wp2_with (first
                | (refine wpList_load_mid rfl 27 _ rfl o2 0 rfl (RC r2) _ rk2 Try.underlying27 rfl Try.size27 ?_)
                | (refine wpList_load_w9 rfl 27 _ rfl o2 0 rfl (RC r2) _ rk2 Try.underlying27 rfl Try.size27 ?_)
                | fail)
              refine CG2.out.mono ?_
              rintro e w22 ⟨rfl, hb22⟩
              have L22 : Hid (Below w1.heap.size w1 w22) := (show Below _ _ _ from L21.out.trans (hb22.mono L21.out.size))
              have X33 := hide (X32.out.kept hb22)
              have CG3 := hide (jgood_any (Q32.out.kept hb22))
              rw [b3g] at CG3
              have rk3 := X33.out.range0
              clear hb22 CG2 rk2 X22 X32 Q32
              go_wp2_with (first
                | (refine wpList_load_mid rfl 27 _ rfl o3 0 rfl (RC r3) _ rk3 Try.underlying27 rfl Try.size27 ?_)
                | (refine wpList_load_w9 rfl 27 _ rfl o3 0 rfl (RC r3) _ rk3 Try.underlying27 rfl Try.size27 ?_)
                | fail)
              refine CG3.out.mono ?_
              rintro e w23 ⟨rfl, hb23⟩
              have L23 : Hid (Below w1.heap.size w1 w23) := (show Below _ _ _ from L22.out.trans (hb23.mono L22.out.size))
              clear hb23 CG3 rk3 X33
              have CV := hide (lives_any w23)
              go_wp2_with fail
              refine CV.out.mono ?_
              rintro e w99 ⟨rfl, hb99⟩
              have L99 : Hid (Below w.heap.size w w99) := (show Below _ _ _ from l1.out.trans ((L23.out.trans (hb99.mono L23.out.size)).mono l1.out.size))
              clear hb99 CV
              go_wp2_with fail
              go_ret
              exact ⟨rfl, L99.out⟩
      · have hx0 : x2 = 4 := hx2.2 hm8
        subst hx0
        clear hx2
        have q8 : decide ((m : Int) ≤ 8192) = false := decide_eq_false (by omega)
        rw [decide_eq_false hm8] at CG
        go_wp2_with (first
          | (refine wpList_load_mid rfl 27 _ rfl B0 0 rfl (RC q) _ rk Try.underlying27 rfl Try.size27 ?_)
          | fail)
        refine CG.out.mono ?_
        rintro e w10 ⟨rfl, hb10⟩
        have L10 : Hid (Below w1.heap.size w1 w10) := (show Below _ _ _ from L9.out.trans (hb10.mono L9.out.size))
        have CL := hide (mlight_any (RO.out.kept L10.out) HBR.out)
        have rk := (b1.out.kept L10.out).range0
        clear hb10 CG XQ9
        go_wp2_with (first
          | (refine wpList_load_mid rfl 27 _ rfl N 0 rfl (RC r) _ rk Try.underlying27 rfl Try.size27 ?_)
          | fail)
        refine CL.out.mono ?_
        rintro e w11 ⟨lb, rfl, hlt, hb11⟩
        have L11 : Hid (Below w1.heap.size w1 w11) := (show Below _ _ _ from L10.out.trans (hb11.mono L10.out.size))
        have HLT := hide hlt
        clear hb11 CL rk hlt
        cases lb with
        | false =>
          have CV := hide (lives_any w11)
          go_wp2_with fail
          refine CV.out.mono ?_
          rintro e w99 ⟨rfl, hb99⟩
          have L99 : Hid (Below w.heap.size w w99) := (show Below _ _ _ from l1.out.trans ((L11.out.trans (hb99.mono L11.out.size)).mono l1.out.size))
          clear hb99 CV
          go_wp2_with fail
          go_ret
          exact ⟨rfl, L99.out⟩
        | true =>
          have LT := hide (HLT.out rfl)
          have CG := hide (jgood_any (RO.out.kept L11.out))
          obtain ⟨g1, HG1⟩ : ∃ z, Hid (goodR r = z) := ⟨_, rfl⟩
          rw [HG1.out] at CG
          have rk := (b1.out.kept L11.out).range0
          go_wp2_with (first
            | (refine wpList_load_mid rfl 27 _ rfl N 0 rfl (RC r) _ rk Try.underlying27 rfl Try.size27 ?_)
            | (refine wpList_load_w9 rfl 27 _ rfl N 0 rfl (RC r) _ rk Try.underlying27 rfl Try.size27 ?_)
            | fail)
          refine CG.out.mono ?_
          rintro e w12 ⟨rfl, hb12⟩
          have L12 : Hid (Below w1.heap.size w1 w12) := (show Below _ _ _ from L11.out.trans (hb12.mono L11.out.size))
          clear hb12 CG rk
          cases g1 with
          | false =>
            have CV := hide (lives_any w12)
            go_wp2_with fail
            refine CV.out.mono ?_
            rintro e w99 ⟨rfl, hb99⟩
            have L99 : Hid (Below w.heap.size w w99) := (show Below _ _ _ from l1.out.trans ((L12.out.trans (hb99.mono L12.out.size)).mono l1.out.size))
            clear hb99 CV
            go_wp2_with fail
            go_ret
            exact ⟨rfl, L99.out⟩
          | true =>
            go_upto_region 13 with fail
            try simp only [Act.put]
            have BR := hide (b1.out.kept L12.out)
            refine wp_region_cells Try.mixed (KS (fun i_ => match i_ with | 0 | 1 | 2 => .val (.agg (RC r).toArray) | _ => .free)) [⟨3, 11, 6, 27, RC zr, RC r⟩, ⟨4, 12, 7, 27, RC zr, RC r⟩, ⟨5, 13, 8, 27, RC zr, RC r⟩] 103 rfl (by decide +kernel) (KS_mono_val _ (fun i => by split <;> exact fun _ _ _ h => h)) (by intro c hc c' hc' e; simp only [List.mem_cons, List.not_mem_nil, or_false] at hc hc'; rcases hc with rfl | rfl | rfl <;> rcases hc' with rfl | rfl | rfl <;> first | rfl | (simp at e)) (by intro c hc c' hc' e; simp only [List.mem_cons, List.not_mem_nil, or_false] at hc hc'; rcases hc with rfl | rfl | rfl <;> rcases hc' with rfl | rfl | rfl <;> first | rfl | (simp at e)) (by intro c hc; simp only [List.mem_cons, List.not_mem_nil, or_false] at hc; rcases hc with rfl | rfl | rfl <;> rfl) ?_ ?_
            · refine AllFrom.cons ?_ (AllFrom.cons ?_ (AllFrom.cons ?_ (AllFrom.cons ?_ (AllFrom.cons ?_ (AllFrom.cons ?_ (AllFrom.cons ?_ (AllFrom.cons ?_ (AllFrom.cons ?_ AllFrom.nil))))))))
              · skip
                refine .val rfl (notI rfl) (notS rfl) (fun a' w' hb hk hd Q => ?_)
                have e2 : a'.eval (.tmp 2) = .pointer (some ⟨N, 0, none⟩) := hk.at 2 (by decide +kernel)
                exact wp_load_row 27 _ rfl _ _ e2 (RC r) _ (BR.out.kept hb).range0 Try.underlying27 rfl (Try.size27) (KS_mkv rfl rfl)
              · skip
                refine .val rfl (notI rfl) (notS rfl) (fun a' w' hb hk hd Q => ?_)
                have e2 : a'.eval (.tmp 2) = .pointer (some ⟨N, 0, none⟩) := hk.at 2 (by decide +kernel)
                exact wp_load_row 27 _ rfl _ _ e2 (RC r) _ (BR.out.kept hb).range0 Try.underlying27 rfl (Try.size27) (KS_mkv rfl rfl)
              · skip
                refine .val rfl (notI rfl) (notS rfl) (fun a' w' hb hk hd Q => ?_)
                have e2 : a'.eval (.tmp 2) = .pointer (some ⟨N, 0, none⟩) := hk.at 2 (by decide +kernel)
                exact wp_load_row 27 _ rfl _ _ e2 (RC r) _ (BR.out.kept hb).range0 Try.underlying27 rfl (Try.size27) (KS_mkv rfl rfl)
              · skip
                refine .new rfl _ (List.Mem.head _) rfl (notS rfl) rfl (fun a' w' => ?_)
                simp only [execOp]; go_simp
              · skip
                refine .new rfl _ (List.Mem.tail _ (List.Mem.head _)) rfl (notS rfl) rfl (fun a' w' => ?_)
                simp only [execOp]; go_simp
              · skip
                refine .new rfl _ (List.Mem.tail _ (List.Mem.tail _ (List.Mem.head _))) rfl (notS rfl) rfl (fun a' w' => ?_)
                simp only [execOp]; go_simp
              · skip
                refine .put rfl _ (List.Mem.head _) (notI rfl) rfl rfl (.tmp 74) rfl (by kernel_rfl) (fun a' w' hb hk hd => ?_) rfl Try.size27 (RC_one r)
                have e74 : a'.eval (.tmp 74) = .agg (RC r).toArray := KS_val (hd 0 74 (by decide +kernel) (notI rfl)) rfl
                exact e74
              · skip
                refine .put rfl _ (List.Mem.tail _ (List.Mem.head _)) (notI rfl) rfl rfl (.tmp 75) rfl (by kernel_rfl) (fun a' w' hb hk hd => ?_) rfl Try.size27 (RC_one r)
                have e75 : a'.eval (.tmp 75) = .agg (RC r).toArray := KS_val (hd 1 75 (by decide +kernel) (notI rfl)) rfl
                exact e75
              · skip
                refine .put rfl _ (List.Mem.tail _ (List.Mem.tail _ (List.Mem.head _))) (notI rfl) rfl rfl (.tmp 76) rfl (by kernel_rfl) (fun a' w' hb hk hd => ?_) rfl Try.size27 (RC_one r)
                have e76 : a'.eval (.tmp 76) = .agg (RC r).toArray := KS_val (hd 2 76 (by decide +kernel) (notI rfl)) rfl
                exact e76
            · intro a' w13 hsz hdf hk hall hb13 hB
              obtain ⟨B, hB1, hB2⟩ := hB
              obtain ⟨e11, z11, c11⟩ := hB1 _ (List.Mem.head _) (show (3 : Nat) < 9 by decide) (show (6 : Nat) < 9 by decide)
              obtain ⟨e12, z12, c12⟩ := hB1 _ (List.Mem.tail _ (List.Mem.head _)) (show (4 : Nat) < 9 by decide) (show (7 : Nat) < 9 by decide)
              obtain ⟨e13, z13, c13⟩ := hB1 _ (List.Mem.tail _ (List.Mem.tail _ (List.Mem.head _))) (show (5 : Nat) < 9 by decide) (show (8 : Nat) < 9 by decide)
              have n12 := hB2 _ (List.Mem.head _) _ (List.Mem.tail _ (List.Mem.head _)) (show (3 : Nat) < 9 by decide) (show (4 : Nat) < 9 by decide) (show (3 : Nat) ≠ 4 by decide)
              have n13 := hB2 _ (List.Mem.head _) _ (List.Mem.tail _ (List.Mem.tail _ (List.Mem.head _))) (show (3 : Nat) < 9 by decide) (show (5 : Nat) < 9 by decide) (show (3 : Nat) ≠ 5 by decide)
              have n23 := hB2 _ (List.Mem.tail _ (List.Mem.head _)) _ (List.Mem.tail _ (List.Mem.tail _ (List.Mem.head _))) (show (4 : Nat) < 9 by decide) (show (5 : Nat) < 9 by decide) (show (4 : Nat) ≠ 5 by decide)
              simp only at e11 e12 e13 z11 z12 z13 c11 c12 c13 n12 n13 n23
              generalize B 3 = o1 at *
              generalize B 4 = o2 at *
              generalize B 5 = o3 at *
              have e74 : a'.eval (.tmp 74) = .agg (RC r).toArray := KS_val (hall 0 _ 74 rfl (fun c hc e => by simp only [List.mem_cons, List.not_mem_nil, or_false] at hc; rcases hc with rfl | rfl | rfl <;> cases e) rfl) rfl
              have e75 : a'.eval (.tmp 75) = .agg (RC r).toArray := KS_val (hall 1 _ 75 rfl (fun c hc e => by simp only [List.mem_cons, List.not_mem_nil, or_false] at hc; rcases hc with rfl | rfl | rfl <;> cases e) rfl) rfl
              have e76 : a'.eval (.tmp 76) = .agg (RC r).toArray := KS_val (hall 2 _ 76 rfl (fun c hc e => by simp only [List.mem_cons, List.not_mem_nil, or_false] at hc; rcases hc with rfl | rfl | rfl <;> cases e) rfl) rfl
              have L13 : Hid (Below w1.heap.size w1 w13) := (show Below _ _ _ from L12.out.trans (hb13.mono L12.out.size))
              have BR13 := hide (BR.out.kept hb13)
              have O1 := hide c11
              have O2 := hide c12
              have O3 := hide c13
              have NE : Hid (o1 ≠ o2 ∧ o1 ≠ o3 ∧ o2 ≠ o3) := (show _ ∧ _ from ⟨n12, n13, n23⟩)
              have Z1 : Hid (w1.heap.size ≤ o1 ∧ w1.heap.size ≤ o2 ∧ w1.heap.size ≤ o3) := (show _ ∧ _ from by have := L12.out.size; exact ⟨Nat.le_trans this z11, Nat.le_trans this z12, Nat.le_trans this z13⟩)
              have ha := act_puts 103 rfl hsz hdf hk [74, 75, 76, 11, 12, 13] (by decide +kernel)
              simp only [puts, List.foldl_cons, List.foldl_nil, e74, e75, e76, e11, e12, e13] at ha
              simp only [Act.put, List.setIfInBounds_toArray, List.set_cons_succ, List.set_cons_zero] at ha
              clear hall hk hsz hdf hB1 hB2 e74 e75 e76 e11 e12 e13 z11 z12 z13 c11 c12 c13 n12 n13 n23 hb13
              subst ha
              have HRCr : Hid (RC r = [.int .i64 r.ses, .int .i64 r.snap, .bool r.st, rv r, wv r]) := (show _ = _ from rfl)
              obtain ⟨w14, hw14⟩ : ∃ z, z = w13.setCell ⟨o1, 0, none⟩ (.int .i64 9) := ⟨_, rfl⟩
              have U14 : Hid (But o1 w13 w14) := (show But _ _ _ by rw [hw14]; exact But.setCell o1 w13 0 (.int .i64 9))
              have O14 : Hid (Blk w14 o1 27 (RC { r with ses := 9 })) := (show Blk _ _ _ _ by rw [hw14]; exact O1.out.set 0 (.int .i64 9))
              have HW14 := hide hw14
              have C14 : Hid (Chg (fun k => k = o1) w13 w14) := (show Chg _ _ _ from Chg.of_but U14.out rfl)
              have O24 := hide (O2.out.chg C14.out (fun e => NE.out.1 e.symm))
              have O34 := hide (O3.out.chg C14.out (fun e => NE.out.2.1 e.symm))
              have BR14 := hide (BR13.out.chg C14.out (fun e => by have h1 := Z1.out.1; have h2 := b1.out.lt; omega))
              have L14 : Hid (Below w1.heap.size w1 w14) := (show Below _ _ _ from L13.out.trans (U14.out.below Z1.out.1 L13.out.size))
              obtain ⟨w15, hw15⟩ : ∃ z, z = w14.setCell ⟨o2, 1, none⟩ (.int .i64 (-1)) := ⟨_, rfl⟩
              have U15 : Hid (But o2 w14 w15) := (show But _ _ _ by rw [hw15]; exact But.setCell o2 w14 1 (.int .i64 (-1)))
              have O25 : Hid (Blk w15 o2 27 (RC { r with snap := -1 })) := (show Blk _ _ _ _ by rw [hw15]; exact O24.out.set 1 (.int .i64 (-1)))
              have HW15 := hide hw15
              have C15 : Hid (Chg (fun k => k = o2) w14 w15) := (show Chg _ _ _ from Chg.of_but U15.out rfl)
              have O15 := hide (O14.out.chg C15.out NE.out.1)
              have O35 := hide (O34.out.chg C15.out (fun e => NE.out.2.2 e.symm))
              have BR15 := hide (BR14.out.chg C15.out (fun e => by have h1 := Z1.out.2.1; have h2 := b1.out.lt; omega))
              have L15 : Hid (Below w1.heap.size w1 w15) := (show Below _ _ _ from L14.out.trans (U15.out.below Z1.out.2.1 L14.out.size))
              clear hw14 hw15
              have hf1 := O1.out.frozen 0
              have d1 := O1.out.cell (j := 0) rfl
              go_upto_region 15 with fail
              change Code.wp _ _ _ _ (w13.setCell ⟨o1, 0, none⟩ (.int .i64 9))
              rw [← HW14.out]
              clear hf1 d1
              have hf2 := O24.out.frozen 1
              have d2 := O24.out.cell (j := 1) rfl
              go_upto_region 16 with fail
              change Code.wp _ _ _ _ (w14.setCell ⟨o2, 1, none⟩ (.int .i64 (-1)))
              rw [← HW15.out]
              clear hf2 d2 O1 O2 O3 O14 O24 O34 BR13 BR14
              obtain ⟨ws, Hws⟩ : ∃ z, Hid (r.ws = z) := ⟨_, rfl⟩
              obtain ⟨mw, Hmw⟩ : ∃ z, Hid (ws.length = z) := ⟨_, rfl⟩
              obtain ⟨wa, Hwa⟩ : ∃ z, Hid (r.wa = z) := ⟨_, rfl⟩
              obtain ⟨wc, Hwc⟩ : ∃ z, Hid (r.wc = z) := ⟨_, rfl⟩
              have hmw : mw ≤ 100 := by have := LT.out.wl; rw [Hws.out, Hmw.out] at this; exact this
              have HWV : Hid (wv r = .slice wa mw wc) := (show _ = _ by unfold wv; rw [Hws.out, Hmw.out, Hwa.out, Hwc.out])
              have RO15 := hide (RO.out.kept L15.out)
              have PW : Hid (RdG PE w15 (.slice wa mw wc) ws) := (show RdG _ _ _ _ by have h := RO15.out.ws; rw [HWV.out, Hws.out] at h; exact h)
              obtain ⟨w16, hw16⟩ : ∃ y, y = w15.alloc (.cells #[] 41 (0, 0)) := ⟨_, rfl⟩
              have l16 : Hid (Below w15.heap.size w15 w16) := (show Below _ _ _ by rw [hw16]; exact (Below.refl _ _).alloc (Nat.le_refl _) _)
              obtain ⟨F0, HF0⟩ : ∃ z, Hid (w15.heap.size = z) := ⟨_, rfl⟩
              have G16 : Hid (OwnG PE w16 F0 41 (.slice (some ⟨w15.heap.size, 0, none⟩) 0 0) []) := (show OwnG _ _ _ _ _ _ by rw [hw16]; exact ownG_none (E := PE) w15 F0 41 (by rw [HF0.out]; exact Nat.le_refl _))
              have HW16 := hide hw16
              clear hw16
              have HZ16 : Hid (F0 ≤ w16.heap.size) := (show _ ≤ _ by have := l16.out.size; have := HF0.out; omega)
              have HLa : Hid (([] : List Pr).length + ws.length ≤ 10000000) := (show _ ≤ _ by rw [List.length_nil, Hmw.out]; omega)
              have PW16 := hide (PW.out.kept l16.out)
              have hp0 := build_p0
              have hpz := build_pz
              have d4 : w16.cell? ⟨N, 4, none⟩ = some (.slice wa mw wc) := by have h := (BR15.out.kept l16.out).cell (j := 4) (v := wv r) rfl; rw [HWV.out] at h; exact h
              go_upto_region 17 with (first
                | (refine wpList_run rfl (.slice (some ⟨w15.heap.size, 0, none⟩) 0 0) (w1 := w15.alloc (.cells #[] 41 (0, 0))) (by simp only [execOp, List.map_nil, List.map_toArray, Sem.run_bind, Sem.run_pure]; exact congrArg (fun r => Result.andThen r _) (build_p0 _)) ?_; rw [← HW16.out])
                | (refine wpList_append_E (E := PE) Try.underlying25 infoP9 (by decide) rfl (.tmp 79) (.tmp 81) rfl F0 (.slice (some ⟨w15.heap.size, 0, none⟩) 0 0) [] rfl G16.out (.slice wa mw wc) ws rfl PW16.out HLa.out HZ16.out ?_; intro v9 w17 o9 g9 q9; rw [List.nil_append] at o9; obtain ⟨a9, c9, hv9⟩ := o9.form; rw [Hmw.out] at hv9; subst hv9; have K17 : Hid (Chg (fun b => F0 ≤ b) w16 w17) := (show Chg _ _ _ from Chg.of_grown g9 (fun k e _ => (G16.out.block e).1)); have O17 := hide o9; clear o9 g9 q9; obtain ⟨w18, hw18⟩ : ∃ y, y = w17.alloc (.cells (PE.c (em, em, false)).toArray 41 (0, 0)) := ⟨_, rfl⟩; have l18 : Hid (Below w17.heap.size w17 w18) := (show Below _ _ _ by rw [hw18]; exact (Below.refl _ _).alloc (Nat.le_refl _) _); have R18 : Hid (RdG PE w18 (.slice (some ⟨w17.heap.size, 0, none⟩) 1 1) [(em, em, false)]) := (show RdG _ _ _ _ by rw [hw18]; exact rdG_one (E := PE) w17 41 (em, em, false)); have HW18 := hide hw18; clear hw18; have O18 := hide (O17.out.kept l18.out); have HLb : Hid (ws.length + [((em, em, false) : Pr)].length ≤ 10000000) := (show _ ≤ _ by rw [List.length_singleton, Hmw.out]; omega); have HZ18 : Hid (F0 ≤ w18.heap.size) := (show _ ≤ _ by have h1 := HZ16.out; have h2 := K17.out.size; have h3 := l18.out.size; omega))
                | (refine wpList_build1E (E := PE) build_pairs1 rfl _ rfl (em, em, false) rfl ?_; change wpList _ _ _ _ _ (w17.alloc (.cells (PE.c (em, em, false)).toArray 41 (0, 0))); rw [← HW18.out])
                | (refine wpList_append_E (E := PE) Try.underlying25 infoP9 (by decide) rfl (.tmp 82) (.tmp 84) rfl F0 (.slice a9 mw c9) ws rfl O18.out (.slice (some ⟨w17.heap.size, 0, none⟩) 1 1) [(em, em, false)] rfl R18.out HLb.out HZ18.out ?_; intro v8 w19 o8 g8 q8; obtain ⟨a8, c8, hv8⟩ := o8.form; have hn8 : (ws ++ [((em, em, false) : Pr)]).length = mw + 1 := (by rw [List.length_append, List.length_singleton, Hmw.out]); rw [hn8] at hv8; subst hv8; have K19 : Hid (Chg (fun b => F0 ≤ b) w15 w19) := (show Chg _ _ _ from (((Chg.of_below l16.out).trans K17.out).trans (Chg.of_below l18.out)).trans (Chg.of_grown g8 (fun k e _ => (O18.out.block e).1))); have O19 := hide o8; have HN8 := hide hn8; clear o8 g8 q8 hn8; have H3 := hide (O35.out.chg K19.out (fun e => by have h1 := O35.out.lt; rw [HF0.out] at h1; omega)))
                | (refine wpList_store_sl rfl 25 szs _ _ rfl o3 4 27 _ _ _ _ rfl rfl H3.out (show 4 < 5 by decide) ?_; intro w20 hb20 hu20)
                | fail)
              try simp only [Act.put]
              have C20 : Hid (Chg (fun k => k = o3) w19 w20) := (show Chg _ _ _ from Chg.of_but hu20 rfl)
              have L19 : Hid (Below w1.heap.size w1 w19) := (show Below _ _ _ from L15.out.trans (K19.out.below L15.out.size (fun k hk e => by have h1 := L15.out.size; have h2 := HF0.out; omega)))
              have L20 : Hid (Below w1.heap.size w1 w20) := (show Below _ _ _ from L19.out.trans (hu20.below Z1.out.2.2 L19.out.size))
              have R20 := hide (RO.out.kept L20.out)
              have X1 : Hid (Blk w20 o1 27 (RC { r with ses := 9 })) := (show Blk _ _ _ _ from (O15.out.chg K19.out (fun e => by have h1 := O15.out.lt; rw [HF0.out] at h1; omega)).chg C20.out NE.out.2.1)
              have X2 : Hid (Blk w20 o2 27 (RC { r with snap := -1 })) := (show Blk _ _ _ _ from (O25.out.chg K19.out (fun e => by have h1 := O25.out.lt; rw [HF0.out] at h1; omega)).chg C20.out NE.out.2.2)
              have OW : Hid (RdG PE w20 (.slice a8 (mw + 1) c8) (ws ++ [(em, em, false)])) := (show RdG _ _ _ _ from (O19.out.chg C20.out (fun j hj e => by obtain ⟨_, _, cu, h5⟩ := O19.out.block hj; exact cells_ne h5 H3.out (by decide) e)).rd)
              have HV3 : Hid (wv { r with ws := r.ws ++ [(em, em, false)], wa := a8, wc := c8 } = .slice a8 (mw + 1) c8) := (show _ = _ by unfold wv; simp only [Hws.out, HN8.out])
              have Q3 : Hid (ROk w20 { r with ws := r.ws ++ [(em, em, false)], wa := a8, wc := c8 }) := (show ROk _ _ from ⟨R20.out.rs, by rw [HV3.out]; simp only [Hws.out]; exact OW.out⟩)
              have X3 : Hid (Blk w20 o3 27 (RC { r with ws := r.ws ++ [(em, em, false)], wa := a8, wc := c8 })) := (show Blk _ _ _ _ by rw [show RC { r with ws := r.ws ++ [(em, em, false)], wa := a8, wc := c8 } = [.int .i64 r.ses, .int .i64 r.snap, .bool r.st, rv r, wv { r with ws := r.ws ++ [(em, em, false)], wa := a8, wc := c8 }] from rfl, HV3.out]; exact hb20)
              have Q1 : Hid (ROk w20 { r with ses := 9 }) := (show ROk _ _ from ⟨R20.out.rs, R20.out.ws⟩)
              have Q2 : Hid (ROk w20 { r with snap := -1 }) := (show ROk _ _ from ⟨R20.out.rs, R20.out.ws⟩)
              obtain ⟨r1, Hr1⟩ : ∃ z, Hid (({ r with ses := 9 } : Rc) = z) := ⟨_, rfl⟩
              obtain ⟨r2, Hr2⟩ : ∃ z, Hid (({ r with snap := -1 } : Rc) = z) := ⟨_, rfl⟩
              obtain ⟨r3, Hr3⟩ : ∃ z, Hid (({ r with ws := r.ws ++ [(em, em, false)], wa := a8, wc := c8 } : Rc) = z) := ⟨_, rfl⟩
              have b1g : goodR r1 = false := by rw [← Hr1.out]; exact bad_one r
              have b2g : goodR r2 = false := by rw [← Hr2.out]; exact bad_two r
              have b3g : goodR r3 = false := by rw [← Hr3.out]; exact bad_three r a8 c8
              rw [Hr1.out] at X1 Q1
              rw [Hr2.out] at X2 Q2
              rw [Hr3.out] at X3 Q3
              clear HV3 OW R20 C20 L19 hb20 hu20 O19 HN8 H3 K19 O15 O25 O35
              have CG := hide (jgood_any Q1.out)
              rw [b1g] at CG
              have rk := X1.out.range0
              go_wp2_with (first
                | (refine wpList_load_mid rfl 27 _ rfl o1 0 rfl (RC r1) _ rk Try.underlying27 rfl Try.size27 ?_)
                | fail)
              refine CG.out.mono ?_
              rintro e w21 ⟨rfl, hb21⟩
              have L21 : Hid (Below w1.heap.size w1 w21) := (show Below _ _ _ from L20.out.trans (hb21.mono L20.out.size))
              have X22 := hide (X2.out.kept hb21)
              have X32 := hide (X3.out.kept hb21)
              have Q32 := hide (Q3.out.kept hb21)
              have CG2 := hide (jgood_any (Q2.out.kept hb21))
              rw [b2g] at CG2
              have rk2 := X22.out.range0
              clear hb21 CG rk X1 Q1 X2 Q2 X3 Q3
              go_wp2_with (first
                | (refine wpList_load_mid rfl 27 _ rfl o2 0 rfl (RC r2) _ rk2 Try.underlying27 rfl Try.size27 ?_)
                | (refine wpList_load_w9 rfl 27 _ rfl o2 0 rfl (RC r2) _ rk2 Try.underlying27 rfl Try.size27 ?_)
                | fail)
              refine CG2.out.mono ?_
              rintro e w22 ⟨rfl, hb22⟩
              have L22 : Hid (Below w1.heap.size w1 w22) := (show Below _ _ _ from L21.out.trans (hb22.mono L21.out.size))
              have X33 := hide (X32.out.kept hb22)
              have CG3 := hide (jgood_any (Q32.out.kept hb22))
              rw [b3g] at CG3
              have rk3 := X33.out.range0
              clear hb22 CG2 rk2 X22 X32 Q32
              go_wp2_with (first
                | (refine wpList_load_mid rfl 27 _ rfl o3 0 rfl (RC r3) _ rk3 Try.underlying27 rfl Try.size27 ?_)
                | (refine wpList_load_w9 rfl 27 _ rfl o3 0 rfl (RC r3) _ rk3 Try.underlying27 rfl Try.size27 ?_)
                | fail)
              refine CG3.out.mono ?_
              rintro e w23 ⟨rfl, hb23⟩
              have L23 : Hid (Below w1.heap.size w1 w23) := (show Below _ _ _ from L22.out.trans (hb23.mono L22.out.size))
              clear hb23 CG3 rk3 X33
              have CV := hide (lives_any w23)
              go_wp2_with fail
              refine CV.out.mono ?_
              rintro e w99 ⟨rfl, hb99⟩
              have L99 : Hid (Below w.heap.size w w99) := (show Below _ _ _ from l1.out.trans ((L23.out.trans (hb99.mono L23.out.size)).mono l1.out.size))
              clear hb99 CV
              go_wp2_with fail
              go_ret
              exact ⟨rfl, L99.out⟩
#print axioms recordLimits_any
end Go.Proofs.Ytmicmbjbclkbjaa
