/-
  indenturelaw09.MountainGrows: what the call does.
-/
import Derived.Test.YtinlpaabmojmkaaDoorMtR
import Derived.Test.YtinlpaabmojmkaaDoorMtO
import Derived.Test.YtinlpaabmojmkaaDoorMtT
import Derived.Test.YtinlpaabmojmkaaDoorMtS
namespace Go.Proofs.YtinlpaabmojmkaaDoor
open Go.RowKit
/-- Behind one leaf more: what peaks are. -/
theorem grown_tops (l : List Hs) (h0 : 0 < l.length) (hl : l.length < 1099511627776) : goodB (l.length : Int) (topsFrom nd em 63 l).length = true ∧ rootP (l.length : Int) (topsFrom nd em 63 l) = root nd em l := by
  have hg : goodB (l.length : Int) (topsFrom nd em 63 l).length = true := by
    unfold goodB
    rw [tops_length, decide_eq_true (by omega : (0 : Int) ≤ (l.length : Int)), decide_eq_true (by omega : (l.length : Int) ≤ 1099511627776)]
    simp
  refine ⟨hg, ?_⟩
  unfold rootP
  rw [if_neg (by rw [hg]; simp; intro e; subst e; simp at h0), joined_tops nd em 63 l (by omega)]
theorem none_tops : rootP 0 (topsFrom nd em 63 ([] : List Hs)) = root nd em [] := by
  unfold rootP
  rw [if_pos (.inl rfl)]
  rfl
theorem Tryd.infoHz : ∃ z, (Tryd.prog.info? 30).map (fun i => (i.zero, i.size, i.bytes)) = some (some z, HE.n, 32) ∧ z.cells.size = HE.n := ⟨HV zh, by kernel_rfl, by kernel_rfl⟩
set_option maxHeartbeats 4000000 in
set_option maxRecDepth 100000 in
theorem mountainGrows_any (l : List Hs) (v : Value) (w : World) (hT : Tabs w) (hr : RdG HE w v l) : Calls Tryd.prog 5 #[v] w fun e w' => e = .returned (.bool true) ∧ Below w.heap.size w w' := by
  have R := hide hr
  have hcap := hr.cap'
  obtain ⟨a, cp, rfl⟩ := hr.slice
  have hcp := hr.cap
  obtain ⟨m, HM⟩ : ∃ m, Hid (l.length = m) := ⟨_, rfl⟩
  rw [HM.out] at R hcap hcp ⊢
  have HT := hide hT
  clear hr hT
  obtain ⟨N, HNw⟩ : ∃ N, Hid (w.heap.size = N) := ⟨_, rfl⟩
  have HNT : Hid (2 ≤ N) := (show _ by rw [← HNw.out]; exact HT.out.size)
  obtain ⟨zz, hzi, hzc⟩ := Tryd.infoHz
  have HZ := hide (And.intro hzi hzc)
  clear hzi hzc
  go_enter Tryd.func5, Tryd.ntmps5
  by_cases h50 : 50 < m
  · have q2 : (50 : Int) < (m : Int) := by omega
    go_wp2_with fail
    refine (mlives_any w).mono ?_
    rintro e w4 ⟨rfl, hb4⟩
    have HB4 := hide hb4
    clear hb4
    go_wp2
    go_ret
    exact ⟨rfl, HB4.out⟩
  · have q2 : ¬ (50 : Int) < (m : Int) := by omega
    go_upto_region 4 with fail
    obtain ⟨w0, hw0⟩ : ∃ y, y = w.alloc (.cells [.int .i64 0, .slice none 0 0].toArray 25 (0, 0)) := ⟨_, rfl⟩
    try change Code.wp _ _ _ _ (w.alloc (.cells [.int .i64 0, .slice none 0 0].toArray 25 (0, 0)))
    rw [← hw0, HNw.out]
    have B0 : Hid (Blk w0 N 25 [.int .i64 0, .slice none 0 0]) := (show Blk _ _ _ _ by rw [hw0, ← HNw.out]; exact Blk.new w _ _)
    have LN : Hid (Below N w w0) := (show Below _ _ _ by rw [hw0]; exact (Below.refl _ _).alloc (by rw [HNw.out]; exact Nat.le_refl _) _)
    clear hw0
    go_wp2_with fail
    go_loopg [16] (m + 1) (fun g z wr => ∃ (i : Nat) (t : Value), i ≤ m ∧ g + i = m + 1 ∧ z = .int .i64 (i : Int) ∧ Hid (Blk wr N 25 [.int .i64 (i : Int), t]) ∧ Hid (RdG HE wr t (topsFrom nd em 63 (l.take i))) ∧ Hid (∀ b, InB t b → N + 1 ≤ b) ∧ Hid (Below N w wr))
    case atStart => exact ⟨0, .slice none 0 0, by omega, by omega, rfl, B0.out, (show RdG HE _ _ _ by rw [List.take_zero, tops_nil]; exact RdG_nil _), (show _ from fun b hb => by obtain ⟨_, _, _, e, _⟩ := hb; simp at e), LN.out⟩
    case round =>
      clear B0 LN
      obtain ⟨i, t, hi, hgi, rfl, B1, RT, NT, LN⟩ := hrel
      have R1 : Hid (RdG HE wr (.slice a m cp) l) := R.out.kept (by rw [HNw.out]; exact LN.out)
      have T1 : Hid (Tabs wr) := HT.out.kept (LN.out.mono HNT.out)
      by_cases hlt : i < m
      · have q3 : (i : Int) < (m : Int) := by omega
        have hil : i < l.length := by rw [HM.out]; exact hlt
        obtain ⟨hs1, hs1r⟩ := slice_G_to (E := HE) (P := Tryd.prog) Tryd.underlying22 Tryd.size30 a m cp (i + 1) (by omega) (by omega)
        rw [show ((i + 1 : Nat) : Int) = (i : Int) + 1 by omega] at hs1
        have RL0 := hide (hs1r _ _ R1.out)
        clear hs1r
        obtain ⟨b, off, rfl, hlb9, hx9⟩ := R1.out.nth (by omega)
        have hrk : wr.rangeAt b (off + i * 32) (By l[i].1) := hx9 i hil
        have HPL : Hid _ := add_tops (l.take i) l[i] (by rw [List.length_take]; omega)
        have HGT := hide (grown_tops (l.take (i + 1)) (by rw [List.length_take]; omega) (by rw [List.length_take]; omega))
        rw [show (l.take (i + 1)).length = i + 1 by rw [List.length_take]; omega, show ((i + 1 : Nat) : Int) = (i : Int) + 1 by omega] at HGT
        have HGD := hide HGT.out.1
        have HRP0 := hide HGT.out.2
        rw [show l.take i ++ [l[i]] = l.take (i + 1) by rw [List.take_add_one, List.getElem?_eq_getElem hil, Option.toList_some], show (l.take i).length = i by rw [List.length_take]; omega] at HPL
        obtain ⟨r, HRR⟩ : ∃ r, Hid (root nd em (l.take (i + 1)) = r) := ⟨_, rfl⟩
        have HRP : Hid (rootP ((i : Int) + 1) (topsFrom nd em 63 (l.take (i + 1))) = r) := (show _ = _ by rw [HRP0.out, HRR.out])
        generalize l[i] = x at *
        clear hx9 HGT HRP0
        obtain ⟨M, HMw⟩ : ∃ M, Hid (wr.heap.size = M) := ⟨_, rfl⟩
        go_upto_region 7 with (first
          | (refine wpList_load_mid rfl 30 _ rfl b (off + i * 32) rfl (By x.1) _ hrk Tryd.underlying30 rfl (Tryd.sizeH x) ?_)
          | (refine wpList_store_new rfl 30 _ _ rfl wr _ (By x.1).toArray _ rfl rfl rfl (by simpa using Tryd.sizeH x) (by simp [By_len]) (all_one (By_one _)) ?_)
          | fail)
        simp only [Act.put]
        obtain ⟨w4, hw4⟩ : ∃ y, y = wr.alloc (.cells (By x.1).toArray 30 (0, 0)) := ⟨_, rfl⟩
        rw [← hw4, HMw.out]
        have D3 : Hid (Blk w4 M 30 (By x.1)) := (show Blk _ _ _ _ by rw [hw4, ← HMw.out]; exact Blk.new wr 30 (By x.1))
        have hb4 : Below wr.heap.size wr w4 := by rw [hw4]; exact (Below.refl _ _).alloc (Nat.le_refl _) _
        have D1 := hide (B1.out.kept hb4)
        have RT4 := hide (RT.out.kept hb4)
        have RL4 := hide (RL0.out.kept hb4)
        have L4 : Hid (Below N w w4) := LN.out.trans (hb4.mono (Nat.le_of_lt B1.out.lt))
        have S4 : Hid (w4.heap.size = M + 1) := (show _ = _ by rw [hw4]; simp [HMw.out])
        clear hw4 hb4 hrk
        -- was := append([]api.Hash{}, p.Tops...)
        have hb0 : ∀ W : World, (Instr.buildSlice 22 0 #[]).run Tryd.prog W = .ok (.slice (some ⟨W.heap.size, 0, none⟩) 0 0) (W.alloc (.cells #[] 30 (0, 0))) := fun W => by kernel_rfl
        have cN := D1.out.cell (j := 1) rfl
        have cN' : (w4.alloc (.cells #[] 30 (0, 0))).cell? ⟨N, 1, none⟩ = some t := (D1.out.alloc _).cell (j := 1) rfl
        obtain ⟨w5, hw5⟩ : ∃ y, y = w4.alloc (.cells #[] 30 (0, 0)) := ⟨_, rfl⟩
        have HW5 := hide hw5
        have O5 : Hid (OwnG HE w5 (M + 1) 30 (.slice (some ⟨M + 1, 0, none⟩) 0 0) []) := (show OwnG _ _ _ _ _ _ by rw [hw5, ← S4.out]; exact ownG_none w4 w4.heap.size 30 (Nat.le_refl _))
        have G5 : Hid (Below (M + 1) w4 w5) := (show Below _ _ _ by rw [hw5]; exact (Below.refl _ _).alloc (by rw [S4.out]; exact Nat.le_refl _) _)
        have S5 : Hid (M + 1 ≤ w5.heap.size) := (show M + 1 ≤ w5.heap.size by rw [hw5]; simp [S4.out])
        have RT5 : Hid (RdG HE w5 t (topsFrom nd em 63 (l.take i))) := RT4.out.kept (by rw [S4.out]; exact G5.out)
        have HTLn : Hid ((topsFrom nd em 63 (l.take i)).length ≤ 63) := (show _ by rw [tops_length]; exact bits_le _ _)
        clear hw5
        go_upto_region 8 with (first
          | (at_builtin; rw [← HW5.out, S4.out]; refine wpList_append_G (E := HE) _ rfl (.tmp 21) (.tmp 23) 22 22 rfl (M + 1) 30 zz 32 Tryd.underlying22 HZ.out.1 HZ.out.2 _ [] rfl O5.out _ (topsFrom nd em 63 (l.take i)) rfl RT5.out 30 Tryd.underlying22 (by have := HTLn.out; simp; omega) (by have := HTLn.out; simp [maxLen]; omega) S5.out ?_; intro v6 w6 ho6 hg6)
          | fail)
        have hb6 : Below (M + 1) w5 w6 := below_of_grown w5 O5.out hg6 S5.out
        have G6 : Below w4.heap.size w4 w6 := by rw [S4.out]; exact G5.out.trans hb6
        have RW6 : Hid (RdG HE w6 v6 (topsFrom nd em 63 (l.take i))) := ho6.rd
        have E1 := hide (D1.out.kept G6)
        have E3 := hide (D3.out.kept G6)
        have RT6 := hide (RT4.out.kept G6)
        have RL6 := hide (RL4.out.kept G6)
        have L6 : Hid (Below N w w6) := L4.out.trans (G6.mono (by rw [S4.out]; have := B1.out.lt; rw [HMw.out] at this; omega))
        have T6 : Hid (Tabs w6) := HT.out.kept (L6.out.mono HNT.out)
        clear ho6 hg6 hb6 G6 cN cN' HW5 O5 G5 S5 RT5 hb0
        go_wp2_with (first
          | (refine wpList_load_mid rfl 25 _ rfl N 0 rfl [.int .i64 (i : Int), t] _ E1.out.range0 Tryd.underlying25 rfl Tryd.sizeP ?_)
          | (refine wpList_load_mid rfl 30 _ rfl M 0 rfl (By x.1) _ E3.out.range0 Tryd.underlying30 rfl (Tryd.sizeH x) ?_)
          | fail)
        refine (add_any (i : Int) t (topsFrom nd em 63 (l.take i)) x (by omega) (by have := HTLn.out; omega) w6 T6.out RT6.out).mono ?_
        rintro e w7 ⟨t7, rfl, ho7, hb7⟩
        rw [HPL.out.1, HPL.out.2.2]
        have RT7 : Hid (RdG HE w7 t7 (topsFrom nd em 63 (l.take (i + 1)))) := (show RdG _ _ _ _ by rw [← HPL.out.2.1]; exact ho7.rd)
        have NT7 : Hid (∀ b, InB t7 b → N + 1 ≤ b) := (show _ from fun b' hb' => Nat.le_trans E1.out.lt (ho7.block (inB_own hb')).1)
        have F1 := hide (E1.out.kept hb7)
        have RO7 := hide (RT6.out.kept hb7)
        have RW7 := hide (RW6.out.kept hb7)
        have RL7 := hide (RL6.out.kept hb7)
        have L7 : Hid (Below N w w7) := L6.out.trans (hb7.mono (Nat.le_of_lt E1.out.lt))
        obtain ⟨a7, c7, ht7⟩ := ho7.rd.slice
        generalize (addT (i : Int) (topsFrom nd em 63 (l.take i)) x).length = n7 at ht7
        subst ht7
        clear ho7 hb7
        obtain ⟨Z9, HQ⟩ : ∃ Z9, Hid (w7.heap.size = Z9) := ⟨_, rfl⟩
        go_upto_region 9 with (first
          | (refine wpList_store_new rfl 25 _ _ rfl w7 _ #[.int .i64 ((i : Int) + 1), .slice a7 n7 c7] _ rfl rfl rfl Tryd.sizeP rfl (by simp [Value.oneCell']) ?_)
          | fail)
        try simp only [Act.put]
        obtain ⟨w8, hw8⟩ : ∃ y, y = w7.alloc (.cells [.int .i64 ((i : Int) + 1), .slice a7 n7 c7].toArray 25 (0, 0)) := ⟨_, rfl⟩
        change Code.wp _ _ _ _ (w7.alloc (.cells [.int .i64 ((i : Int) + 1), .slice a7 n7 c7].toArray 25 (0, 0)))
        rw [← hw8, HQ.out]
        have B8 : Hid (Blk w8 Z9 25 [.int .i64 ((i : Int) + 1), .slice a7 n7 c7]) := (show Blk _ _ _ _ by rw [hw8, ← HQ.out]; exact Blk.new w7 _ _)
        have hb8 : Below w7.heap.size w7 w8 := by rw [hw8]; exact (Below.refl _ _).alloc (Nat.le_refl _) _
        have BN := hide (F1.out.kept hb8)
        have RT8 := hide (RT7.out.kept hb8)
        have RO8 := hide (RO7.out.kept hb8)
        have RW8 := hide (RW7.out.kept hb8)
        have RL8 := hide (RL7.out.kept hb8)
        have L8 : Hid (Below N w w8) := L7.out.trans (hb8.mono (Nat.le_of_lt F1.out.lt))
        have TB8 : Hid (Tabs w8) := HT.out.kept (L8.out.mono HNT.out)
        have HNQ : Hid (N < Z9) := (show N < Z9 by rw [← HQ.out]; exact F1.out.lt)
        clear hw8 hb8
        have hwi : IntKind.i64.wrap ((i : Int) + 1) = (i : Int) + 1 := by rw [IntKind.wrap_i64]; omega
        have eQ := eqA r r
        rw [decide_eq_true rfl] at eQ
        refine wp_region_inv Tryd.mixed (KS (fun i_ => match i_ with | 0 | 21 | 28 => .val (.bool true) | 1 | 2 | 7 | 8 | 9 | 17 | 18 | 19 | 22 | 23 | 24 | 29 | 30 => .val (.bool false) | 3 => .val (.pointer (some ⟨Z9, 0, none⟩)) | 4 | 6 | 14 => .val (.int .i64 ((i : Int) + 1)) | 5 | 13 => .val (.int .i64 (i : Int)) | 10 | 20 => .val (.agg #[.int .i64 ((i : Int) + 1), .slice a7 n7 c7]) | 11 | 16 => .val (HV r) | 12 => .val (.slice (some ⟨b, off, none⟩) m cp) | 15 => .val (.slice (some ⟨b, off, none⟩) (i + 1) cp) | 25 => .val (.pointer (some ⟨N, 1, none⟩)) | 26 => .val (t) | 27 => .val (v6) | _ => .free)) 72 rfl (by decide +kernel) (KS_mono _) ?_ ?_
        · refine AllFrom.cons (fun a' w' hg hk hd => ?_) (AllFrom.cons (fun a' w' hg hk hd => ?_) (AllFrom.cons (fun a' w' hg hk hd => ?_) (AllFrom.cons (fun a' w' hg hk hd => ?_) (AllFrom.cons (fun a' w' hg hk hd => ?_) (AllFrom.cons (fun a' w' hg hk hd => ?_) (AllFrom.cons (fun a' w' hg hk hd => ?_) (AllFrom.cons (fun a' w' hg hk hd => ?_) (AllFrom.cons (fun a' w' hg hk hd => ?_) (AllFrom.cons (fun a' w' hg hk hd => ?_) (AllFrom.cons (fun a' w' hg hk hd => ?_) (AllFrom.cons (fun a' w' hg hk hd => ?_) (AllFrom.cons (fun a' w' hg hk hd => ?_) (AllFrom.cons (fun a' w' hg hk hd => ?_) (AllFrom.cons (fun a' w' hg hk hd => ?_) (AllFrom.cons (fun a' w' hg hk hd => ?_) (AllFrom.cons (fun a' w' hg hk hd => ?_) (AllFrom.cons (fun a' w' hg hk hd => ?_) (AllFrom.cons (fun a' w' hg hk hd => ?_) (AllFrom.cons (fun a' w' hg hk hd => ?_) (AllFrom.cons (fun a' w' hg hk hd => ?_) (AllFrom.cons (fun a' w' hg hk hd => ?_) (AllFrom.cons (fun a' w' hg hk hd => ?_) (AllFrom.cons (fun a' w' hg hk hd => ?_) (AllFrom.cons (fun a' w' hg hk hd => ?_) (AllFrom.cons (fun a' w' hg hk hd => ?_) (AllFrom.cons (fun a' w' hg hk hd => ?_) (AllFrom.cons (fun a' w' hg hk hd => ?_) (AllFrom.cons (fun a' w' hg hk hd => ?_) (AllFrom.cons (fun a' w' hg hk hd => ?_) (AllFrom.cons (fun a' w' hg hk hd => ?_) AllFrom.nil))))))))))))))))))))))))))))))
          · skip
            intro Q
            have e8 : a'.eval (.tmp 8) = .bool true := hk.at 8 (by decide +kernel)
            exact wp_value _ (by simp only [execOp, e8]; rfl) (KS_mkv rfl rfl)
          · skip
            intro Q
            have e31 : a'.eval (.tmp 31) = .bool true := KS_val (hd.val 0 31 (by decide +kernel)) rfl
            clear hd hk
            exact wp_value (.bool false) (by simp only [execOp, e31]; go_simp) (KS_mkv rfl rfl)
          · skip
            intro Q
            have e32 : a'.eval (.tmp 32) = .bool false := KS_val (hd.val 1 32 (by decide +kernel)) rfl
            exact wp_value _ (by simp only [execOp, e32]; rfl) (KS_mkv rfl rfl)
          · skip
            have eg : a'.eval (.tmp 33) = .bool false := KS_val (hd.val 2 33 (by decide +kernel)) rfl
            refine ⟨33, false, rfl, eg, fun _ Q => ?_, fun h => absurd rfl h⟩
            have e7 : a'.eval (.tmp 7) = .pointer (some ⟨Z9, 0, none⟩) := hk.at 7 (by decide +kernel)
            clear hd hk
            exact wp_value (.pointer (some ⟨Z9, 0, none⟩)) (by simp only [execOp, e7]; go_simp) (KS_mkv rfl rfl)
          · skip
            have eg : a'.eval (.tmp 33) = .bool false := KS_val (hd.val 2 33 (by decide +kernel)) rfl
            refine ⟨33, false, rfl, eg, fun _ Q => ?_, fun h => absurd rfl h⟩
            have e34 : a'.eval (.tmp 34) = .pointer (some ⟨Z9, 0, none⟩) := KS_val (hd.val 3 34 (by decide +kernel)) rfl
            have hc := (B8.out.kept hg).cell (j := 0) rfl
            clear hd hk
            exact wp_value (.int .i64 ((i : Int) + 1)) (by simp only [execOp, e34]; go_simp) (KS_mkv rfl rfl)
          · skip
            have eg : a'.eval (.tmp 33) = .bool false := KS_val (hd.val 2 33 (by decide +kernel)) rfl
            refine ⟨33, false, rfl, eg, fun _ Q => ?_, fun h => absurd rfl h⟩
            have e4 : a'.eval (.tmp 4) = .int .i64 (i : Int) := hk.at 4 (by decide +kernel)
            exact wp_value _ (by simp only [execOp, e4]; rfl) (KS_mkv rfl rfl)
          · skip
            have eg : a'.eval (.tmp 33) = .bool false := KS_val (hd.val 2 33 (by decide +kernel)) rfl
            refine ⟨33, false, rfl, eg, fun _ Q => ?_, fun h => absurd rfl h⟩
            have e36 : a'.eval (.tmp 36) = .int .i64 (i : Int) := KS_val (hd.val 5 36 (by decide +kernel)) rfl
            clear hd hk
            exact wp_value (.int .i64 ((i : Int) + 1)) (by simp only [execOp, e36]; go_simp) (KS_mkv rfl rfl)
          · skip
            have eg : a'.eval (.tmp 33) = .bool false := KS_val (hd.val 2 33 (by decide +kernel)) rfl
            refine ⟨33, false, rfl, eg, fun _ Q => ?_, fun h => absurd rfl h⟩
            have e35 : a'.eval (.tmp 35) = .int .i64 ((i : Int) + 1) := KS_val (hd.val 4 35 (by decide +kernel)) rfl
            have e37 : a'.eval (.tmp 37) = .int .i64 ((i : Int) + 1) := KS_val (hd.val 6 37 (by decide +kernel)) rfl
            clear hd hk
            exact wp_value (.bool false) (by simp only [execOp, e35, e37]; go_simp) (KS_mkv rfl rfl)
          · skip
            intro Q
            have e33 : a'.eval (.tmp 33) = .bool false := KS_val (hd.val 2 33 (by decide +kernel)) rfl
            have e38 : a'.eval (.tmp 38) = .bool false := KS_val (hd.val 7 38 (by decide +kernel)) rfl
            clear hd hk
            exact wp_value (.bool false) (by simp only [execOp, e33, e38]; go_simp) (KS_mkv rfl rfl)
          · skip
            intro Q
            have e39 : a'.eval (.tmp 39) = .bool false := KS_val (hd.val 8 39 (by decide +kernel)) rfl
            exact wp_value _ (by simp only [execOp, e39]; rfl) (KS_mkv rfl rfl)
          · skip
            have eg : a'.eval (.tmp 40) = .bool false := KS_val (hd.val 9 40 (by decide +kernel)) rfl
            refine ⟨40, false, rfl, eg, fun _ Q => ?_, fun h => absurd rfl h⟩
            have e7 : a'.eval (.tmp 7) = .pointer (some ⟨Z9, 0, none⟩) := hk.at 7 (by decide +kernel)
            exact wp_load_row 25 _ rfl _ _ e7 [.int .i64 ((i : Int) + 1), .slice a7 n7 c7] _ (B8.out.kept hg).range0 Tryd.underlying25 rfl Tryd.sizeP (KS_mkv rfl rfl)
          · skip
            have eg : a'.eval (.tmp 40) = .bool false := KS_val (hd.val 9 40 (by decide +kernel)) rfl
            refine ⟨40, false, rfl, eg, fun _ Q => ?_, fun h => absurd rfl h⟩
            have e41 : a'.eval (.tmp 41) = .agg #[.int .i64 ((i : Int) + 1), .slice a7 n7 c7] := KS_val (hd.val 10 41 (by decide +kernel)) rfl
            refine wp_call 17 _ (run_enter 17 _ _ rfl (by kernel_rfl)) ?_
            simp only [List.map_toArray, List.map_nil, List.map_cons, e41]
            refine (proot_any _ _ (topsFrom nd em 63 (l.take (i + 1))) (by omega) _ (TB8.out.gr hg) (RT8.out.kept hg)).mono ?_
            rintro e w5 ⟨rfl, hb5⟩
            exact ⟨_, rfl, KS_mkv rfl (by rw [HRP.out]), hb5⟩
          · skip
            have eg : a'.eval (.tmp 40) = .bool false := KS_val (hd.val 9 40 (by decide +kernel)) rfl
            refine ⟨40, false, rfl, eg, fun _ Q => ?_, fun h => absurd rfl h⟩
            have e0 : a'.eval (.tmp 0) = .slice (some ⟨b, off, none⟩) m cp := hk.at 0 (by decide +kernel)
            exact wp_value _ (by simp only [execOp, e0]; rfl) (KS_mkv rfl rfl)
          · skip
            have eg : a'.eval (.tmp 40) = .bool false := KS_val (hd.val 9 40 (by decide +kernel)) rfl
            refine ⟨40, false, rfl, eg, fun _ Q => ?_, fun h => absurd rfl h⟩
            have e4 : a'.eval (.tmp 4) = .int .i64 (i : Int) := hk.at 4 (by decide +kernel)
            exact wp_value _ (by simp only [execOp, e4]; rfl) (KS_mkv rfl rfl)
          · skip
            have eg : a'.eval (.tmp 40) = .bool false := KS_val (hd.val 9 40 (by decide +kernel)) rfl
            refine ⟨40, false, rfl, eg, fun _ Q => ?_, fun h => absurd rfl h⟩
            have e44 : a'.eval (.tmp 44) = .int .i64 (i : Int) := KS_val (hd.val 13 44 (by decide +kernel)) rfl
            clear hd hk
            exact wp_value (.int .i64 ((i : Int) + 1)) (by simp only [execOp, e44]; go_simp) (KS_mkv rfl rfl)
          · skip
            have eg : a'.eval (.tmp 40) = .bool false := KS_val (hd.val 9 40 (by decide +kernel)) rfl
            refine ⟨40, false, rfl, eg, fun _ Q => ?_, fun h => absurd rfl h⟩
            have e43 : a'.eval (.tmp 43) = .slice (some ⟨b, off, none⟩) m cp := KS_val (hd.val 12 43 (by decide +kernel)) rfl
            have e45 : a'.eval (.tmp 45) = .int .i64 ((i : Int) + 1) := KS_val (hd.val 14 45 (by decide +kernel)) rfl
            exact wp_value _ (by simp only [execOp, e43, e45, hs1, Sem.run_bind, Result.andThen_ok, Option.map_none, Option.map_some]; rfl) (KS_mkv rfl rfl)
          · skip
            have eg : a'.eval (.tmp 40) = .bool false := KS_val (hd.val 9 40 (by decide +kernel)) rfl
            refine ⟨40, false, rfl, eg, fun _ Q => ?_, fun h => absurd rfl h⟩
            have e46 : a'.eval (.tmp 46) = .slice (some ⟨b, off, none⟩) (i + 1) cp := KS_val (hd.val 15 46 (by decide +kernel)) rfl
            refine wp_call 10 _ (run_enter 10 _ _ rfl (by kernel_rfl)) ?_
            simp only [List.map_toArray, List.map_nil, List.map_cons, e46]
            refine (root_any (l.take (i + 1)) _ _ (TB8.out.gr hg) (RL8.out.kept hg)).mono ?_
            rintro e w5 ⟨rfl, hb5⟩
            exact ⟨_, rfl, KS_mkv rfl (by rw [HRR.out]), hb5⟩
          · skip
            have eg : a'.eval (.tmp 40) = .bool false := KS_val (hd.val 9 40 (by decide +kernel)) rfl
            refine ⟨40, false, rfl, eg, fun _ Q => ?_, fun h => absurd rfl h⟩
            have e42 : a'.eval (.tmp 42) = HV r := KS_val (hd.val 11 42 (by decide +kernel)) rfl
            have e47 : a'.eval (.tmp 47) = HV r := KS_val (hd.val 16 47 (by decide +kernel)) rfl
            clear hd hk
            exact wp_value (.bool false) (by simp only [execOp, e42, e47, HV]; go_simp) (KS_mkv rfl rfl)
          · skip
            intro Q
            have e40 : a'.eval (.tmp 40) = .bool false := KS_val (hd.val 9 40 (by decide +kernel)) rfl
            have e48 : a'.eval (.tmp 48) = .bool false := KS_val (hd.val 17 48 (by decide +kernel)) rfl
            clear hd hk
            exact wp_value (.bool false) (by simp only [execOp, e40, e48]; go_simp) (KS_mkv rfl rfl)
          · skip
            intro Q
            have e49 : a'.eval (.tmp 49) = .bool false := KS_val (hd.val 18 49 (by decide +kernel)) rfl
            exact wp_value _ (by simp only [execOp, e49]; rfl) (KS_mkv rfl rfl)
          · skip
            have eg : a'.eval (.tmp 50) = .bool false := KS_val (hd.val 19 50 (by decide +kernel)) rfl
            refine ⟨50, false, rfl, eg, fun _ Q => ?_, fun h => absurd rfl h⟩
            have e7 : a'.eval (.tmp 7) = .pointer (some ⟨Z9, 0, none⟩) := hk.at 7 (by decide +kernel)
            exact wp_load_row 25 _ rfl _ _ e7 [.int .i64 ((i : Int) + 1), .slice a7 n7 c7] _ (B8.out.kept hg).range0 Tryd.underlying25 rfl Tryd.sizeP (KS_mkv rfl rfl)
          · skip
            have eg : a'.eval (.tmp 50) = .bool false := KS_val (hd.val 19 50 (by decide +kernel)) rfl
            refine ⟨50, false, rfl, eg, fun _ Q => ?_, fun h => absurd rfl h⟩
            have e51 : a'.eval (.tmp 51) = .agg #[.int .i64 ((i : Int) + 1), .slice a7 n7 c7] := KS_val (hd.val 20 51 (by decide +kernel)) rfl
            refine wp_call 15 _ (run_enter 15 _ _ rfl (by kernel_rfl)) ?_
            simp only [List.map_toArray, List.map_nil, List.map_cons, e51]
            refine (good_any _ _ (topsFrom nd em 63 (l.take (i + 1))) (by omega) _ (RT8.out.kept hg)).mono ?_
            rintro e w5 ⟨rfl, hb5⟩
            exact ⟨_, rfl, KS_mkv rfl (by rw [HGD.out]), hb5⟩
          · skip
            have eg : a'.eval (.tmp 50) = .bool false := KS_val (hd.val 19 50 (by decide +kernel)) rfl
            refine ⟨50, false, rfl, eg, fun _ Q => ?_, fun h => absurd rfl h⟩
            have e52 : a'.eval (.tmp 52) = .bool true := KS_val (hd.val 21 52 (by decide +kernel)) rfl
            clear hd hk
            exact wp_value (.bool false) (by simp only [execOp, e52]; go_simp) (KS_mkv rfl rfl)
          · skip
            intro Q
            have e50 : a'.eval (.tmp 50) = .bool false := KS_val (hd.val 19 50 (by decide +kernel)) rfl
            have e53 : a'.eval (.tmp 53) = .bool false := KS_val (hd.val 22 53 (by decide +kernel)) rfl
            clear hd hk
            exact wp_value (.bool false) (by simp only [execOp, e50, e53]; go_simp) (KS_mkv rfl rfl)
          · skip
            intro Q
            have e54 : a'.eval (.tmp 54) = .bool false := KS_val (hd.val 23 54 (by decide +kernel)) rfl
            exact wp_value _ (by simp only [execOp, e54]; rfl) (KS_mkv rfl rfl)
          · skip
            have eg : a'.eval (.tmp 55) = .bool false := KS_val (hd.val 24 55 (by decide +kernel)) rfl
            refine ⟨55, false, rfl, eg, fun _ Q => ?_, fun h => absurd rfl h⟩
            have e3 : a'.eval (.tmp 3) = .pointer (some ⟨N, 0, none⟩) := hk.at 3 (by decide +kernel)
            clear hd hk
            exact wp_value (.pointer (some ⟨N, 1, none⟩)) (by simp only [execOp, e3]; go_simp) (KS_mkv rfl rfl)
          · skip
            have eg : a'.eval (.tmp 55) = .bool false := KS_val (hd.val 24 55 (by decide +kernel)) rfl
            refine ⟨55, false, rfl, eg, fun _ Q => ?_, fun h => absurd rfl h⟩
            have e56 : a'.eval (.tmp 56) = .pointer (some ⟨N, 1, none⟩) := KS_val (hd.val 25 56 (by decide +kernel)) rfl
            have hc := (BN.out.kept hg).cell (j := 1) rfl
            clear hd hk
            exact wp_value t (by simp only [execOp, e56]; go_simp) (KS_mkv rfl rfl)
          · skip
            have eg : a'.eval (.tmp 55) = .bool false := KS_val (hd.val 24 55 (by decide +kernel)) rfl
            refine ⟨55, false, rfl, eg, fun _ Q => ?_, fun h => absurd rfl h⟩
            have e6 : a'.eval (.tmp 6) = v6 := hk.at 6 (by decide +kernel)
            exact wp_value _ (by simp only [execOp, e6]; rfl) (KS_mkv rfl rfl)
          · skip
            have eg : a'.eval (.tmp 55) = .bool false := KS_val (hd.val 24 55 (by decide +kernel)) rfl
            refine ⟨55, false, rfl, eg, fun _ Q => ?_, fun h => absurd rfl h⟩
            have e57 : a'.eval (.tmp 57) = t := KS_val (hd.val 26 57 (by decide +kernel)) rfl
            have e58 : a'.eval (.tmp 58) = v6 := KS_val (hd.val 27 58 (by decide +kernel)) rfl
            refine wp_call 12 _ (run_enter 12 _ _ rfl (by kernel_rfl)) ?_
            simp only [List.map_toArray, List.map_nil, List.map_cons, e57, e58]
            refine (nsame_any (P := topsFrom nd em 63 (l.take i)) (Q := topsFrom nd em 63 (l.take i)) (RO8.out.kept hg) (RW8.out.kept hg)).mono ?_
            rintro e w5 ⟨rfl, hb5⟩
            exact ⟨_, rfl, KS_mkv rfl (by rw [decide_eq_true rfl]), hb5⟩
          · skip
            have eg : a'.eval (.tmp 55) = .bool false := KS_val (hd.val 24 55 (by decide +kernel)) rfl
            refine ⟨55, false, rfl, eg, fun _ Q => ?_, fun h => absurd rfl h⟩
            have e59 : a'.eval (.tmp 59) = .bool true := KS_val (hd.val 28 59 (by decide +kernel)) rfl
            clear hd hk
            exact wp_value (.bool false) (by simp only [execOp, e59]; go_simp) (KS_mkv rfl rfl)
          · skip
            intro Q
            have e55 : a'.eval (.tmp 55) = .bool false := KS_val (hd.val 24 55 (by decide +kernel)) rfl
            have e60 : a'.eval (.tmp 60) = .bool false := KS_val (hd.val 29 60 (by decide +kernel)) rfl
            clear hd hk
            exact wp_value (.bool false) (by simp only [execOp, e55, e60]; go_simp) (KS_mkv rfl rfl)
        · intro a' w' hsz hdf hk hall hg
          have e31 : a'.eval (.tmp 31) = .bool true := KS_val (hall 0 _ 31 rfl rfl) rfl
          have e32 : a'.eval (.tmp 32) = .bool false := KS_val (hall 1 _ 32 rfl rfl) rfl
          have e33 : a'.eval (.tmp 33) = .bool false := KS_val (hall 2 _ 33 rfl rfl) rfl
          have e34 : a'.eval (.tmp 34) = .pointer (some ⟨Z9, 0, none⟩) := KS_val (hall 3 _ 34 rfl rfl) rfl
          have e35 : a'.eval (.tmp 35) = .int .i64 ((i : Int) + 1) := KS_val (hall 4 _ 35 rfl rfl) rfl
          have e36 : a'.eval (.tmp 36) = .int .i64 (i : Int) := KS_val (hall 5 _ 36 rfl rfl) rfl
          have e37 : a'.eval (.tmp 37) = .int .i64 ((i : Int) + 1) := KS_val (hall 6 _ 37 rfl rfl) rfl
          have e38 : a'.eval (.tmp 38) = .bool false := KS_val (hall 7 _ 38 rfl rfl) rfl
          have e39 : a'.eval (.tmp 39) = .bool false := KS_val (hall 8 _ 39 rfl rfl) rfl
          have e40 : a'.eval (.tmp 40) = .bool false := KS_val (hall 9 _ 40 rfl rfl) rfl
          have e41 : a'.eval (.tmp 41) = .agg #[.int .i64 ((i : Int) + 1), .slice a7 n7 c7] := KS_val (hall 10 _ 41 rfl rfl) rfl
          have e42 : a'.eval (.tmp 42) = HV r := KS_val (hall 11 _ 42 rfl rfl) rfl
          have e43 : a'.eval (.tmp 43) = .slice (some ⟨b, off, none⟩) m cp := KS_val (hall 12 _ 43 rfl rfl) rfl
          have e44 : a'.eval (.tmp 44) = .int .i64 (i : Int) := KS_val (hall 13 _ 44 rfl rfl) rfl
          have e45 : a'.eval (.tmp 45) = .int .i64 ((i : Int) + 1) := KS_val (hall 14 _ 45 rfl rfl) rfl
          have e46 : a'.eval (.tmp 46) = .slice (some ⟨b, off, none⟩) (i + 1) cp := KS_val (hall 15 _ 46 rfl rfl) rfl
          have e47 : a'.eval (.tmp 47) = HV r := KS_val (hall 16 _ 47 rfl rfl) rfl
          have e48 : a'.eval (.tmp 48) = .bool false := KS_val (hall 17 _ 48 rfl rfl) rfl
          have e49 : a'.eval (.tmp 49) = .bool false := KS_val (hall 18 _ 49 rfl rfl) rfl
          have e50 : a'.eval (.tmp 50) = .bool false := KS_val (hall 19 _ 50 rfl rfl) rfl
          have e51 : a'.eval (.tmp 51) = .agg #[.int .i64 ((i : Int) + 1), .slice a7 n7 c7] := KS_val (hall 20 _ 51 rfl rfl) rfl
          have e52 : a'.eval (.tmp 52) = .bool true := KS_val (hall 21 _ 52 rfl rfl) rfl
          have e53 : a'.eval (.tmp 53) = .bool false := KS_val (hall 22 _ 53 rfl rfl) rfl
          have e54 : a'.eval (.tmp 54) = .bool false := KS_val (hall 23 _ 54 rfl rfl) rfl
          have e55 : a'.eval (.tmp 55) = .bool false := KS_val (hall 24 _ 55 rfl rfl) rfl
          have e56 : a'.eval (.tmp 56) = .pointer (some ⟨N, 1, none⟩) := KS_val (hall 25 _ 56 rfl rfl) rfl
          have e57 : a'.eval (.tmp 57) = t := KS_val (hall 26 _ 57 rfl rfl) rfl
          have e58 : a'.eval (.tmp 58) = v6 := KS_val (hall 27 _ 58 rfl rfl) rfl
          have e59 : a'.eval (.tmp 59) = .bool true := KS_val (hall 28 _ 59 rfl rfl) rfl
          have e60 : a'.eval (.tmp 60) = .bool false := KS_val (hall 29 _ 60 rfl rfl) rfl
          have e61 : a'.eval (.tmp 61) = .bool false := KS_val (hall 30 _ 61 rfl rfl) rfl
          have ha := act_puts 72 rfl hsz hdf hk [31, 32, 33, 34, 35, 36, 37, 38, 39, 40, 41, 42, 43, 44, 45, 46, 47, 48, 49, 50, 51, 52, 53, 54, 55, 56, 57, 58, 59, 60, 61] (by decide +kernel)
          simp only [puts, List.foldl_cons, List.foldl_nil, e31, e32, e33, e34, e35, e36, e37, e38, e39, e40, e41, e42, e43, e44, e45, e46, e47, e48, e49, e50, e51, e52, e53, e54, e55, e56, e57, e58, e59, e60, e61] at ha
          simp only [Act.put, List.setIfInBounds_toArray, List.set_cons_succ, List.set_cons_zero] at ha
          clear hall hk hsz hdf e31 e32 e33 e34 e35 e36 e37 e38 e39 e40 e41 e42 e43 e44 e45 e46 e47 e48 e49 e50 e51 e52 e53 e54 e55 e56 e57 e58 e59 e60 e61
          subst ha
          have G9 := hide (show Below w8.heap.size w8 w' from hg)
          have X8 := hide (B8.out.kept G9.out)
          have XN := hide (BN.out.kept G9.out)
          have XT := hide (RT8.out.kept G9.out)
          have XL : Hid (Below N w w') := L8.out.trans (G9.out.mono (Nat.le_of_lt BN.out.lt))
          clear hg eQ hs1
          go_wp2_with (first
            | (refine wpList_load_mid rfl 25 _ rfl Z9 0 rfl [.int .i64 ((i : Int) + 1), .slice a7 n7 c7] _ X8.out.range0 Tryd.underlying25 rfl Tryd.sizeP ?_)
            | (refine wpList_store_blk rfl 25 _ _ rfl N _ [.int .i64 ((i : Int) + 1), .slice a7 n7 c7] 25 rfl rfl XN.out rfl Tryd.sizeP (by simp [Value.oneCell']) ?_; intro w10 hb10 hu10; have Y10 := hide hb10; have U10 := hide hu10; clear hb10 hu10)
            | fail)
          go_roundg (gk - 1)
          case measure => omega
          case rel =>
            refine ⟨i + 1, .slice a7 n7 c7, by omega, by omega, by go_num, (show Blk _ _ _ _ by simpa using Y10.out), XT.out.chg (F := fun b => b = N) (Chg.of_but U10.out rfl) (fun b' hb' e => by have := NT7.out b' hb'; omega), NT7.out, XL.out.trans (U10.out.below (Nat.le_refl _) (Nat.le_of_lt XN.out.lt))⟩
      · obtain rfl : i = m := by omega
        rw [List.take_of_length_le (by rw [HM.out]; exact Nat.le_refl _)] at RT
        have HRP : Hid (rootP (i : Int) (topsFrom nd em 63 l) = root nd em l) := (show _ = _ by
          rcases Nat.eq_zero_or_pos i with h0 | h0
          · have hl0 : l = [] := List.eq_nil_of_length_eq_zero (by rw [HM.out]; exact h0)
            subst h0
            rw [hl0]
            exact none_tops
          · have := (grown_tops l (by rw [HM.out]; exact h0) (by rw [HM.out]; omega)).2
            rw [HM.out] at this
            exact this)
        go_wp2_with (first
          | (refine wpList_load_mid rfl 25 _ rfl N 0 rfl [.int .i64 (i : Int), t] _ B1.out.range0 Tryd.underlying25 rfl Tryd.sizeP ?_)
          | fail)
        refine (proot_any (i : Int) t (topsFrom nd em 63 l) (by omega) wr T1.out RT.out).mono ?_
        rintro e w2 ⟨rfl, hb2⟩
        rw [HRP.out]
        have L2 : Hid (Below N w w2) := LN.out.trans (hb2.mono (Nat.le_of_lt B1.out.lt))
        have R2 := hide (R1.out.kept hb2)
        have T2 : Hid (Tabs w2) := HT.out.kept (L2.out.mono HNT.out)
        have S2 : Hid (N ≤ w2.heap.size) := (show N ≤ w2.heap.size by have := B1.out.lt; have := hb2.size; omega)
        clear hb2
        go_wp2_with fail
        refine (root_any l _ w2 T2.out R2.out).mono ?_
        rintro e w3 ⟨rfl, hb3⟩
        have L3 : Hid (Below N w w3) := L2.out.trans (hb3.mono S2.out)
        have S3 : Hid (N ≤ w3.heap.size) := (show N ≤ w3.heap.size by have := S2.out; have := hb3.size; omega)
        clear hb3
        have eQ := eqA (root nd em l) (root nd em l)
        rw [decide_eq_true rfl] at eQ
        simp only [HV]
        go_wp2_with fail
        refine (mlives_any _).mono ?_
        rintro e w4 ⟨rfl, hb4⟩
        have L4 : Hid (Below N w w4) := L3.out.trans (hb4.mono S3.out)
        clear hb4
        go_wp2
        go_ret
        exact ⟨rfl, by rw [HNw.out]; exact L4.out⟩
#print axioms mountainGrows_any
end Go.Proofs.YtinlpaabmojmkaaDoor
