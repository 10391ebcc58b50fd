/-
  indenturelaw09.MountainTops: what the call does.
-/
import Derived.Test.YtinlpaabmojmkabDoorMtR
import Derived.Test.YtinlpaabmojmkabDoorMtO
import Derived.Test.YtinlpaabmojmkabDoorMtW
namespace Go.Proofs.YtinlpaabmojmkabDoor
open Go.RowKit
theorem sum_take_succ (L : List Nat) (i : Nat) (h : i < L.length) : (L.take (i + 1)).sum = (L.take i).sum + L[i] := by
  rw [List.take_add_one, List.getElem?_eq_getElem h, Option.toList_some, List.sum_append]
  simp
theorem sum_take_le : ∀ (L : List Nat) (i : Nat), (L.take i).sum ≤ L.sum
  | [], i => by simp
  | x :: L, 0 => by simp
  | x :: L, i + 1 => by
    rw [List.take_succ_cons, List.sum_cons, List.sum_cons]
    have := sum_take_le L i
    omega
theorem slice_G_mid {α : Type} {E : Enc α} {P : Program} {t e : TypeId} (ht : P.underlying t = some (.slice e)) (hsz : (P.info? e).map (·.size) = some E.n) (a : Option Addr) (n cap i k : Nat) (hi : i + k ≤ n) (hn : n ≤ cap) :
    ∃ a', (∀ W, (Instr.sliceAt t (.slice a n cap) (some (.int .i64 (i : Int))) (some (.int .i64 ((i : Int) + (k : Int)))) none).run P W = .ok (.slice a' k (cap - i)) W) ∧
      (∀ w (L : List α), RdG E w (.slice a n cap) L → RdG E w (.slice a' k (cap - i)) ((L.drop i).take k)) := by
  obtain ⟨a', _, ha', h2⟩ := slice_G (E := E) (P := P) ht hsz a n cap i (by omega) hn
  obtain ⟨h, hh⟩ : ∃ h, i + k = h := ⟨_, rfl⟩
  have e1 : (i : Int) ≤ (h : Int) := by omega
  have e2 : (h : Int) ≤ (cap : Int) := by omega
  have e3 : h - i = k := by omega
  refine ⟨a', fun W => ?_, fun w L hr => (slice_G_to (E := E) (P := P) ht hsz a' (n - i) (cap - i) k (by omega) (by omega)).2 w _ (h2 w L hr)⟩
  subst ha'
  rw [show (i : Int) + (k : Int) = (h : Int) by omega]
  cases hq : P.info? e with
  | none => simp [hq] at hsz
  | some q =>
    have hk : q.size = E.n := by simpa [hq] using hsz
    simp [Instr.sliceAt, Instr.slice, run_underlying ht, Instr.sliceBounds, run_sliceBound, e1, e2, e3, sizeOf, typeInfo, hq, hk]
set_option maxHeartbeats 4000000 in
set_option maxRecDepth 100000 in
theorem mountainTops_any (l : List Hs) (v : Value) (w : World) (hT : Tabs w) (hr : RdG HE w v l) : Calls Tryd.prog 3 #[v] w fun e w' => e = .returned (.bool true) ∧ Below w.heap.size w w' := by
  have R := hide hr
  have hcap := hr.cap'
  obtain ⟨a, cp, rfl⟩ := hr.slice
  have hcp := hr.cap
  obtain ⟨m, HM⟩ : ∃ m, Hid (l.length = m) := ⟨_, rfl⟩
  rw [HM.out] at R hcap hcp ⊢
  have HT := hide hT
  clear hr hT
  go_enter Tryd.func3, Tryd.ntmps3
  by_cases h50 : 50 < m
  · have q2 : (50 : Int) < (m : Int) := by omega
    go_wp2_with fail
    refine (mlives_any w).mono ?_
    rintro e w4 ⟨rfl, hb4⟩
    have HB4 := hide hb4
    clear hb4
    go_wp2
    go_ret
    exact ⟨rfl, HB4.out⟩
  · have q2 : ¬ (50 : Int) < (m : Int) := by omega
    have CO := of_any l (.slice a m cp) w HT.out R.out (by rw [HM.out]; omega)
    rw [HM.out] at CO
    have CB := fun w => mbits_any (m : Int) (by omega) w
    rw [show ((m : Int)).toNat = m by omega] at CB
    have HTL : Hid ((topsFrom nd em 63 l).length = (bitsFrom 63 m).length) := (show _ = _ by rw [tops_length, HM.out])
    have HTA := hide (tops_at nd em 63 l)
    rw [HM.out] at HTA
    have HBM := hide (bits_mem 63 m)
    have HBS := hide (bits_sum 63 m (by omega))
    have HBL := hide (bits_le 63 m)
    have HGD : Hid (goodB (m : Int) (topsFrom nd em 63 l).length = true) := (show _ = _ by
      unfold goodB
      rw [HTL.out, decide_eq_true (by omega : (0 : Int) ≤ (m : Int)), decide_eq_true (by omega : (m : Int) ≤ 1099511627776), show ((m : Int)).toNat = m by omega]
      simp)
    generalize bitsFrom 63 m = Bs at *
    have CB9 := hide CB
    clear CB
    go_wp2_with fail
    refine CO.mono ?_
    clear CO
    rintro e w1 ⟨t1, rfl, hr1, hb1⟩
    obtain ⟨a1, c1, ht1⟩ := hr1.slice
    have RT := hide hr1
    have L1 := hide hb1
    obtain ⟨k, HK⟩ : ∃ k, Hid ((topsFrom nd em 63 l).length = k) := ⟨_, rfl⟩
    rw [HK.out] at ht1 HTL HGD
    subst ht1
    clear hr1 hb1
    have hk63 : k ≤ 63 := by rw [HTL.out]; exact HBL.out
    obtain ⟨E, HEw⟩ : ∃ E, Hid (w1.heap.size = E) := ⟨_, rfl⟩
    go_upto_region 4 with (first
      | (refine wpList_store_new rfl 25 _ _ rfl w1 _ #[.int .i64 (m : Int), .slice a1 k c1] _ rfl rfl rfl Tryd.sizeP rfl (by simp [Value.oneCell']) ?_)
      | fail)
    obtain ⟨w2, hw2⟩ : ∃ y, y = w1.alloc (.cells [.int .i64 (m : Int), .slice a1 k c1].toArray 25 (0, 0)) := ⟨_, rfl⟩
    change Code.wp _ _ _ _ (w1.alloc (.cells [.int .i64 (m : Int), .slice a1 k c1].toArray 25 (0, 0)))
    rw [← hw2, HEw.out]
    have b2 : Blk w2 E 25 [.int .i64 (m : Int), .slice a1 k c1] := by rw [hw2, ← HEw.out]; exact Blk.new w1 _ _
    have hb2 : Below w1.heap.size w1 w2 := by rw [hw2]; exact (Below.refl _ _).alloc (Nat.le_refl _) _
    have L2 : Hid (Below w.heap.size w w2) := L1.out.trans (hb2.mono L1.out.size)
    have RT2 := RT.out.kept hb2
    clear hw2 hb2
    go_wp2_with fail
    refine (CB9.out w2).mono ?_
    rintro e w3 ⟨v3, rfl, ho3, hb3⟩
    have B3 := hide (b2.kept hb3)
    have RT3 := hide (RT2.kept hb3)
    have L3 : Hid (Below w.heap.size w w3) := L2.out.trans (hb3.mono L2.out.size)
    have RB := hide ho3.rd
    obtain ⟨a3, c3, ht3⟩ := ho3.rd.slice
    rw [← HTL.out] at ht3
    subst ht3
    have c0 : w3.cell? ⟨E, 0, none⟩ = some (.int .i64 (m : Int)) := B3.out.cell (j := 0) rfl
    have c1' : w3.cell? ⟨E, 1, none⟩ = some (.slice a1 k c1) := B3.out.cell (j := 1) rfl
    clear b2 RT2 ho3 hb3
    have CG := good_any (m : Int) (.slice a1 k c1) (topsFrom nd em 63 l) (by omega) w3 RT3.out
    rw [HK.out, HGD.out] at CG
    go_wp2_with (first
      | (refine wpList_load_w9 rfl 25 _ rfl E 0 rfl [.int .i64 (m : Int), .slice a1 k c1] _ B3.out.range0 Tryd.underlying25 rfl Tryd.sizeP ?_)
      | fail)
    refine CG.mono ?_
    clear CG
    rintro e w4 ⟨rfl, hb4⟩
    have B0 := hide (B3.out.kept hb4)
    have L4 : Hid (Below w.heap.size w w4) := L3.out.trans (hb4.mono L3.out.size)
    have RT4 := hide (RT3.out.kept hb4)
    have RB4 := hide (RB.out.kept hb4)
    have RL4 : Hid (RdG HE w4 (.slice a m cp) l) := R.out.kept L4.out
    have HT1 : Hid (Tabs w4) := HT.out.gr L4.out
    clear hb4 c0 c1' B3 RT3 RB L3
    go_wp2_with fail
    go_loopg [5, 37] (k + 1) (fun g y z wr => ∃ (i p : Nat), i ≤ k ∧ g + i = k + 1 ∧ z = .int .i64 (i : Int) ∧ y = .int .i64 (p : Int) ∧ Hid (p = (Bs.take i).sum) ∧ Hid (Below w4.heap.size w4 wr))
    case atStart => exact ⟨0, 0, by omega, by omega, rfl, rfl, (rfl : _ = _), Below.refl _ _⟩
    case round =>
      obtain ⟨i, p, hi, hgi, rfl, rfl, HP, LR⟩ := hrel
      by_cases hlt : i < k
      · have q3 : (i : Int) < (k : Int) := by omega
        have hiB : i < Bs.length := by rw [← HTL.out]; exact hlt
        obtain ⟨bb, ob, rfl, hcb⟩ := (RB4.out.kept LR.out).num (by omega)
        have cb := hcb i hiB
        have HX1 := hide (sum_take_succ Bs i hiB)
        have HX2 := hide (sum_take_le Bs (i + 1))
        obtain ⟨j, hj, hxj⟩ := HBM.out Bs[i] (List.getElem_mem hiB)
        have hx1 : 1 ≤ Bs[i] := by rw [hxj]; exact Nat.pow_pos (by decide)
        have HTI := hide (HTA.out i Bs[i] (List.getElem?_eq_getElem hiB))
        have hiT : i < (topsFrom nd em 63 l).length := by rw [HK.out]; exact hlt
        rw [List.getElem?_eq_getElem hiT, ← HP.out] at HTI
        obtain ⟨bt, ot, rfl, hbt, hxt⟩ := (RT4.out.kept LR.out).nth (by omega)
        have hrt : wr.rangeAt bt (ot + i * 32) (By ((topsFrom nd em 63 l)[i]).1) := hxt i hiT
        have HRT : Hid (root nd em ((l.drop p).take Bs[i]) = (topsFrom nd em 63 l)[i]) := (show _ = _ from (Option.some.inj HTI.out).symm)
        have hpx : p + Bs[i] ≤ m := by have := HX1.out; have := HX2.out; have := HP.out; have := HBS.out; omega
        have hpx2 : p + Bs[i] = (Bs.take (i + 1)).sum := by have := HX1.out; have := HP.out; omega
        have HPX := hide hpx2
        clear HTI hpx2
        generalize (topsFrom nd em 63 l)[i] = r at *
        generalize Bs[i] = x at *
        clear hcb hxt hxj
        obtain ⟨a2, hs1, hs1r⟩ := slice_G_mid (E := HE) (P := Tryd.prog) Tryd.underlying22 Tryd.size30 a m cp p x (by omega) (by omega)
        have RS : Hid (RdG HE wr (.slice a2 x (cp - p)) ((l.drop p).take x)) := hs1r _ _ (RL4.out.kept LR.out)
        clear hs1r
        have eQ := eqA r r
        rw [decide_eq_true rfl] at eQ
        have q4 : ¬ (x : Int) < 1 := by omega
        have q5 : ¬ ((m : Int) - (p : Int)) < (x : Int) := by omega
        have hw1 : IntKind.i64.wrap ((m : Int) - (p : Int)) = (m : Int) - (p : Int) := by rw [IntKind.wrap_i64]; omega
        have hw2 : IntKind.i64.wrap ((p : Int) + (x : Int)) = (p : Int) + (x : Int) := by rw [IntKind.wrap_i64]; omega
        have q6 : ¬ k ≤ i := by omega
        have B0r := hide (B0.out.kept LR.out)
        have HT1r := hide (HT1.out.gr LR.out)
        go_upto_region 11 with fail
        refine wp_region_inv Tryd.mixed (KS (fun i_ => match i_ with | 0 | 3 | 19 => .val (.int .i64 (x : Int)) | 1 | 2 | 8 | 9 | 10 | 23 | 24 => .val (.bool false) | 4 | 16 => .val (.slice a m cp) | 5 => .val (.int .i64 (m : Int)) | 6 | 17 | 18 => .val (.int .i64 (p : Int)) | 7 => .val (.int .i64 ((m : Int) - (p : Int))) | 11 => .val (.pointer (some ⟨E, 1, none⟩)) | 12 => .val (.slice (some ⟨bt, ot, none⟩) k c1) | 13 => .val (.int .i64 (i : Int)) | 14 => .val (.pointer (some ⟨bt, ot + i * 32, none⟩)) | 15 | 22 => .val (HV r) | 20 => .val (.int .i64 ((p : Int) + (x : Int))) | 21 => .val (.slice a2 x (cp - p)) | _ => .free)) 78 rfl (by decide +kernel) (KS_mono _) ?_ ?_
        · refine AllFrom.cons (fun a' w' hg hk hd => ?_) (AllFrom.cons (fun a' w' hg hk hd => ?_) (AllFrom.cons (fun a' w' hg hk hd => ?_) (AllFrom.cons (fun a' w' hg hk hd => ?_) (AllFrom.cons (fun a' w' hg hk hd => ?_) (AllFrom.cons (fun a' w' hg hk hd => ?_) (AllFrom.cons (fun a' w' hg hk hd => ?_) (AllFrom.cons (fun a' w' hg hk hd => ?_) (AllFrom.cons (fun a' w' hg hk hd => ?_) (AllFrom.cons (fun a' w' hg hk hd => ?_) (AllFrom.cons (fun a' w' hg hk hd => ?_) (AllFrom.cons (fun a' w' hg hk hd => ?_) (AllFrom.cons (fun a' w' hg hk hd => ?_) (AllFrom.cons (fun a' w' hg hk hd => ?_) (AllFrom.cons (fun a' w' hg hk hd => ?_) (AllFrom.cons (fun a' w' hg hk hd => ?_) (AllFrom.cons (fun a' w' hg hk hd => ?_) (AllFrom.cons (fun a' w' hg hk hd => ?_) (AllFrom.cons (fun a' w' hg hk hd => ?_) (AllFrom.cons (fun a' w' hg hk hd => ?_) (AllFrom.cons (fun a' w' hg hk hd => ?_) (AllFrom.cons (fun a' w' hg hk hd => ?_) (AllFrom.cons (fun a' w' hg hk hd => ?_) (AllFrom.cons (fun a' w' hg hk hd => ?_) (AllFrom.cons (fun a' w' hg hk hd => ?_) AllFrom.nil))))))))))))))))))))))))
          · skip
            intro Q
            have e7 : a'.eval (.tmp 7) = .int .i64 (x : Int) := hk.at 7 (by decide +kernel)
            exact wp_value _ (by simp only [execOp, e7]; rfl) (KS_mkv rfl rfl)
          · skip
            intro Q
            have e42 : a'.eval (.tmp 42) = .int .i64 (x : Int) := KS_val (hd.val 0 42 (by decide +kernel)) rfl
            clear hd hk
            exact wp_value (.bool false) (by simp only [execOp, e42]; go_simp) (KS_mkv rfl rfl)
          · skip
            intro Q
            have e43 : a'.eval (.tmp 43) = .bool false := KS_val (hd.val 1 43 (by decide +kernel)) rfl
            exact wp_value _ (by simp only [execOp, e43]; rfl) (KS_mkv rfl rfl)
          · skip
            have eg : a'.eval (.tmp 44) = .bool false := KS_val (hd.val 2 44 (by decide +kernel)) rfl
            refine ⟨44, false, rfl, eg, fun _ Q => ?_, fun h => absurd rfl h⟩
            have e7 : a'.eval (.tmp 7) = .int .i64 (x : Int) := hk.at 7 (by decide +kernel)
            exact wp_value _ (by simp only [execOp, e7]; rfl) (KS_mkv rfl rfl)
          · skip
            have eg : a'.eval (.tmp 44) = .bool false := KS_val (hd.val 2 44 (by decide +kernel)) rfl
            refine ⟨44, false, rfl, eg, fun _ Q => ?_, fun h => absurd rfl h⟩
            have e0 : a'.eval (.tmp 0) = .slice a m cp := hk.at 0 (by decide +kernel)
            exact wp_value _ (by simp only [execOp, e0]; rfl) (KS_mkv rfl rfl)
          · skip
            have eg : a'.eval (.tmp 44) = .bool false := KS_val (hd.val 2 44 (by decide +kernel)) rfl
            refine ⟨44, false, rfl, eg, fun _ Q => ?_, fun h => absurd rfl h⟩
            have e46 : a'.eval (.tmp 46) = .slice a m cp := KS_val (hd.val 4 46 (by decide +kernel)) rfl
            clear hd hk
            exact wp_value (.int .i64 (m : Int)) (by simp only [execOp, resolve, invoke, builtin, Sem.run_bind, Sem.run_pure, Result.andThen_ok, List.map_toArray, List.map_cons, List.map_nil, e46]; go_simp) (KS_mkv rfl rfl)
          · skip
            have eg : a'.eval (.tmp 44) = .bool false := KS_val (hd.val 2 44 (by decide +kernel)) rfl
            refine ⟨44, false, rfl, eg, fun _ Q => ?_, fun h => absurd rfl h⟩
            have e5 : a'.eval (.tmp 5) = .int .i64 (p : Int) := hk.at 5 (by decide +kernel)
            exact wp_value _ (by simp only [execOp, e5]; rfl) (KS_mkv rfl rfl)
          · skip
            have eg : a'.eval (.tmp 44) = .bool false := KS_val (hd.val 2 44 (by decide +kernel)) rfl
            refine ⟨44, false, rfl, eg, fun _ Q => ?_, fun h => absurd rfl h⟩
            have e47 : a'.eval (.tmp 47) = .int .i64 (m : Int) := KS_val (hd.val 5 47 (by decide +kernel)) rfl
            have e48 : a'.eval (.tmp 48) = .int .i64 (p : Int) := KS_val (hd.val 6 48 (by decide +kernel)) rfl
            clear hd hk
            exact wp_value (.int .i64 ((m : Int) - (p : Int))) (by simp only [execOp, e47, e48]; go_simp) (KS_mkv rfl rfl)
          · skip
            have eg : a'.eval (.tmp 44) = .bool false := KS_val (hd.val 2 44 (by decide +kernel)) rfl
            refine ⟨44, false, rfl, eg, fun _ Q => ?_, fun h => absurd rfl h⟩
            have e45 : a'.eval (.tmp 45) = .int .i64 (x : Int) := KS_val (hd.val 3 45 (by decide +kernel)) rfl
            have e49 : a'.eval (.tmp 49) = .int .i64 ((m : Int) - (p : Int)) := KS_val (hd.val 7 49 (by decide +kernel)) rfl
            clear hd hk
            exact wp_value (.bool false) (by simp only [execOp, e45, e49]; go_simp) (KS_mkv rfl rfl)
          · skip
            intro Q
            have e44 : a'.eval (.tmp 44) = .bool false := KS_val (hd.val 2 44 (by decide +kernel)) rfl
            have e50 : a'.eval (.tmp 50) = .bool false := KS_val (hd.val 8 50 (by decide +kernel)) rfl
            clear hd hk
            exact wp_value (.bool false) (by simp only [execOp, e44, e50]; go_simp) (KS_mkv rfl rfl)
          · skip
            intro Q
            have e51 : a'.eval (.tmp 51) = .bool false := KS_val (hd.val 9 51 (by decide +kernel)) rfl
            exact wp_value _ (by simp only [execOp, e51]; rfl) (KS_mkv rfl rfl)
          · skip
            have eg : a'.eval (.tmp 52) = .bool false := KS_val (hd.val 10 52 (by decide +kernel)) rfl
            refine ⟨52, false, rfl, eg, fun _ Q => ?_, fun h => absurd rfl h⟩
            have e3 : a'.eval (.tmp 3) = .pointer (some ⟨E, 0, none⟩) := hk.at 3 (by decide +kernel)
            clear hd hk
            exact wp_value (.pointer (some ⟨E, 1, none⟩)) (by simp only [execOp, e3]; go_simp) (KS_mkv rfl rfl)
          · skip
            have eg : a'.eval (.tmp 52) = .bool false := KS_val (hd.val 10 52 (by decide +kernel)) rfl
            refine ⟨52, false, rfl, eg, fun _ Q => ?_, fun h => absurd rfl h⟩
            have e53 : a'.eval (.tmp 53) = .pointer (some ⟨E, 1, none⟩) := KS_val (hd.val 11 53 (by decide +kernel)) rfl
            have hc := (B0r.out.kept hg).cell (j := 1) rfl
            clear hd hk
            exact wp_value (.slice (some ⟨bt, ot, none⟩) k c1) (by simp only [execOp, e53]; go_simp) (KS_mkv rfl rfl)
          · skip
            have eg : a'.eval (.tmp 52) = .bool false := KS_val (hd.val 10 52 (by decide +kernel)) rfl
            refine ⟨52, false, rfl, eg, fun _ Q => ?_, fun h => absurd rfl h⟩
            have e6 : a'.eval (.tmp 6) = .int .i64 (i : Int) := hk.at 6 (by decide +kernel)
            exact wp_value _ (by simp only [execOp, e6]; rfl) (KS_mkv rfl rfl)
          · skip
            have eg : a'.eval (.tmp 52) = .bool false := KS_val (hd.val 10 52 (by decide +kernel)) rfl
            refine ⟨52, false, rfl, eg, fun _ Q => ?_, fun h => absurd rfl h⟩
            have e54 : a'.eval (.tmp 54) = .slice (some ⟨bt, ot, none⟩) k c1 := KS_val (hd.val 12 54 (by decide +kernel)) rfl
            have e55 : a'.eval (.tmp 55) = .int .i64 (i : Int) := KS_val (hd.val 13 55 (by decide +kernel)) rfl
            clear hd hk
            exact wp_value (.pointer (some ⟨bt, ot + i * 32, none⟩)) (by simp only [execOp, e54, e55]; go_simp) (KS_mkv rfl rfl)
          · skip
            have eg : a'.eval (.tmp 52) = .bool false := KS_val (hd.val 10 52 (by decide +kernel)) rfl
            refine ⟨52, false, rfl, eg, fun _ Q => ?_, fun h => absurd rfl h⟩
            have e56 : a'.eval (.tmp 56) = .pointer (some ⟨bt, ot + i * 32, none⟩) := KS_val (hd.val 14 56 (by decide +kernel)) rfl
            exact wp_load_row 30 _ rfl _ _ e56 (By r.1) _ (rangeAt_kept9 hrt hbt hg) Tryd.underlying30 rfl (Tryd.sizeH _) (KS_mkv rfl rfl)
          · skip
            have eg : a'.eval (.tmp 52) = .bool false := KS_val (hd.val 10 52 (by decide +kernel)) rfl
            refine ⟨52, false, rfl, eg, fun _ Q => ?_, fun h => absurd rfl h⟩
            have e0 : a'.eval (.tmp 0) = .slice a m cp := hk.at 0 (by decide +kernel)
            exact wp_value _ (by simp only [execOp, e0]; rfl) (KS_mkv rfl rfl)
          · skip
            have eg : a'.eval (.tmp 52) = .bool false := KS_val (hd.val 10 52 (by decide +kernel)) rfl
            refine ⟨52, false, rfl, eg, fun _ Q => ?_, fun h => absurd rfl h⟩
            have e5 : a'.eval (.tmp 5) = .int .i64 (p : Int) := hk.at 5 (by decide +kernel)
            exact wp_value _ (by simp only [execOp, e5]; rfl) (KS_mkv rfl rfl)
          · skip
            have eg : a'.eval (.tmp 52) = .bool false := KS_val (hd.val 10 52 (by decide +kernel)) rfl
            refine ⟨52, false, rfl, eg, fun _ Q => ?_, fun h => absurd rfl h⟩
            have e5 : a'.eval (.tmp 5) = .int .i64 (p : Int) := hk.at 5 (by decide +kernel)
            exact wp_value _ (by simp only [execOp, e5]; rfl) (KS_mkv rfl rfl)
          · skip
            have eg : a'.eval (.tmp 52) = .bool false := KS_val (hd.val 10 52 (by decide +kernel)) rfl
            refine ⟨52, false, rfl, eg, fun _ Q => ?_, fun h => absurd rfl h⟩
            have e7 : a'.eval (.tmp 7) = .int .i64 (x : Int) := hk.at 7 (by decide +kernel)
            exact wp_value _ (by simp only [execOp, e7]; rfl) (KS_mkv rfl rfl)
          · skip
            have eg : a'.eval (.tmp 52) = .bool false := KS_val (hd.val 10 52 (by decide +kernel)) rfl
            refine ⟨52, false, rfl, eg, fun _ Q => ?_, fun h => absurd rfl h⟩
            have e60 : a'.eval (.tmp 60) = .int .i64 (p : Int) := KS_val (hd.val 18 60 (by decide +kernel)) rfl
            have e61 : a'.eval (.tmp 61) = .int .i64 (x : Int) := KS_val (hd.val 19 61 (by decide +kernel)) rfl
            clear hd hk
            exact wp_value (.int .i64 ((p : Int) + (x : Int))) (by simp only [execOp, e60, e61]; go_simp) (KS_mkv rfl rfl)
          · skip
            have eg : a'.eval (.tmp 52) = .bool false := KS_val (hd.val 10 52 (by decide +kernel)) rfl
            refine ⟨52, false, rfl, eg, fun _ Q => ?_, fun h => absurd rfl h⟩
            have e58 : a'.eval (.tmp 58) = .slice a m cp := KS_val (hd.val 16 58 (by decide +kernel)) rfl
            have e59 : a'.eval (.tmp 59) = .int .i64 (p : Int) := KS_val (hd.val 17 59 (by decide +kernel)) rfl
            have e62 : a'.eval (.tmp 62) = .int .i64 ((p : Int) + (x : Int)) := KS_val (hd.val 20 62 (by decide +kernel)) rfl
            exact wp_value _ (by simp only [execOp, e58, e59, e62, hs1, Sem.run_bind, Result.andThen_ok, Option.map_none, Option.map_some]; rfl) (KS_mkv rfl rfl)
          · skip
            have eg : a'.eval (.tmp 52) = .bool false := KS_val (hd.val 10 52 (by decide +kernel)) rfl
            refine ⟨52, false, rfl, eg, fun _ Q => ?_, fun h => absurd rfl h⟩
            have e63 : a'.eval (.tmp 63) = .slice a2 x (cp - p) := KS_val (hd.val 21 63 (by decide +kernel)) rfl
            refine wp_call 8 _ (run_enter 8 _ _ rfl (by kernel_rfl)) ?_
            simp only [List.map_toArray, List.map_nil, List.map_cons, e63]
            refine (root_any _ _ _ (HT1r.out.gr hg) (RS.out.kept hg)).mono ?_
            rintro e w5 ⟨rfl, hb5⟩
            exact ⟨_, rfl, KS_mkv rfl (by rw [HRT.out]), hb5⟩
          · skip
            have eg : a'.eval (.tmp 52) = .bool false := KS_val (hd.val 10 52 (by decide +kernel)) rfl
            refine ⟨52, false, rfl, eg, fun _ Q => ?_, fun h => absurd rfl h⟩
            have e57 : a'.eval (.tmp 57) = HV r := KS_val (hd.val 15 57 (by decide +kernel)) rfl
            have e64 : a'.eval (.tmp 64) = HV r := KS_val (hd.val 22 64 (by decide +kernel)) rfl
            clear hd hk
            exact wp_value (.bool false) (by simp only [execOp, e57, e64, HV]; go_simp) (KS_mkv rfl rfl)
          · skip
            intro Q
            have e52 : a'.eval (.tmp 52) = .bool false := KS_val (hd.val 10 52 (by decide +kernel)) rfl
            have e65 : a'.eval (.tmp 65) = .bool false := KS_val (hd.val 23 65 (by decide +kernel)) rfl
            clear hd hk
            exact wp_value (.bool false) (by simp only [execOp, e52, e65]; go_simp) (KS_mkv rfl rfl)
        · intro a' w' hsz hdf hk hall hg
          have e42 : a'.eval (.tmp 42) = .int .i64 (x : Int) := KS_val (hall 0 _ 42 rfl rfl) rfl
          have e43 : a'.eval (.tmp 43) = .bool false := KS_val (hall 1 _ 43 rfl rfl) rfl
          have e44 : a'.eval (.tmp 44) = .bool false := KS_val (hall 2 _ 44 rfl rfl) rfl
          have e45 : a'.eval (.tmp 45) = .int .i64 (x : Int) := KS_val (hall 3 _ 45 rfl rfl) rfl
          have e46 : a'.eval (.tmp 46) = .slice a m cp := KS_val (hall 4 _ 46 rfl rfl) rfl
          have e47 : a'.eval (.tmp 47) = .int .i64 (m : Int) := KS_val (hall 5 _ 47 rfl rfl) rfl
          have e48 : a'.eval (.tmp 48) = .int .i64 (p : Int) := KS_val (hall 6 _ 48 rfl rfl) rfl
          have e49 : a'.eval (.tmp 49) = .int .i64 ((m : Int) - (p : Int)) := KS_val (hall 7 _ 49 rfl rfl) rfl
          have e50 : a'.eval (.tmp 50) = .bool false := KS_val (hall 8 _ 50 rfl rfl) rfl
          have e51 : a'.eval (.tmp 51) = .bool false := KS_val (hall 9 _ 51 rfl rfl) rfl
          have e52 : a'.eval (.tmp 52) = .bool false := KS_val (hall 10 _ 52 rfl rfl) rfl
          have e53 : a'.eval (.tmp 53) = .pointer (some ⟨E, 1, none⟩) := KS_val (hall 11 _ 53 rfl rfl) rfl
          have e54 : a'.eval (.tmp 54) = .slice (some ⟨bt, ot, none⟩) k c1 := KS_val (hall 12 _ 54 rfl rfl) rfl
          have e55 : a'.eval (.tmp 55) = .int .i64 (i : Int) := KS_val (hall 13 _ 55 rfl rfl) rfl
          have e56 : a'.eval (.tmp 56) = .pointer (some ⟨bt, ot + i * 32, none⟩) := KS_val (hall 14 _ 56 rfl rfl) rfl
          have e57 : a'.eval (.tmp 57) = HV r := KS_val (hall 15 _ 57 rfl rfl) rfl
          have e58 : a'.eval (.tmp 58) = .slice a m cp := KS_val (hall 16 _ 58 rfl rfl) rfl
          have e59 : a'.eval (.tmp 59) = .int .i64 (p : Int) := KS_val (hall 17 _ 59 rfl rfl) rfl
          have e60 : a'.eval (.tmp 60) = .int .i64 (p : Int) := KS_val (hall 18 _ 60 rfl rfl) rfl
          have e61 : a'.eval (.tmp 61) = .int .i64 (x : Int) := KS_val (hall 19 _ 61 rfl rfl) rfl
          have e62 : a'.eval (.tmp 62) = .int .i64 ((p : Int) + (x : Int)) := KS_val (hall 20 _ 62 rfl rfl) rfl
          have e63 : a'.eval (.tmp 63) = .slice a2 x (cp - p) := KS_val (hall 21 _ 63 rfl rfl) rfl
          have e64 : a'.eval (.tmp 64) = HV r := KS_val (hall 22 _ 64 rfl rfl) rfl
          have e65 : a'.eval (.tmp 65) = .bool false := KS_val (hall 23 _ 65 rfl rfl) rfl
          have e66 : a'.eval (.tmp 66) = .bool false := KS_val (hall 24 _ 66 rfl rfl) rfl
          have ha := act_puts 78 rfl hsz hdf hk [42, 43, 44, 45, 46, 47, 48, 49, 50, 51, 52, 53, 54, 55, 56, 57, 58, 59, 60, 61, 62, 63, 64, 65, 66] (by decide +kernel)
          simp only [puts, List.foldl_cons, List.foldl_nil, e42, e43, e44, e45, e46, e47, e48, e49, e50, e51, e52, e53, e54, e55, e56, e57, e58, e59, e60, e61, e62, e63, e64, e65, e66] at ha
          simp only [Act.put, List.setIfInBounds_toArray, List.set_cons_succ, List.set_cons_zero] at ha
          clear hall hk hsz hdf e42 e43 e44 e45 e46 e47 e48 e49 e50 e51 e52 e53 e54 e55 e56 e57 e58 e59 e60 e61 e62 e63 e64 e65 e66
          subst ha
          have L6 : Hid (Below w4.heap.size w4 w') := LR.out.trans (Below.mono hg LR.out.size)
          clear hg hs1 eQ hrt cb
          go_wp2
          go_roundg (gk - 1)
          case measure => omega
          case rel => exact ⟨i + 1, p + x, by omega, by omega, by go_num, by go_num, HPX.out, L6.out⟩
      · obtain rfl : i = k := by omega
        have hpm : p = m := by rw [HP.out, List.take_of_length_le (by rw [← HTL.out]; exact Nat.le_refl _)]; exact HBS.out
        have L5 : Hid (Below w.heap.size w wr) := L4.out.trans (LR.out.mono L4.out.size)
        clear HP
        subst hpm
        go_wp2_with fail
        refine (mlives_any _).mono ?_
        rintro e w6 ⟨rfl, hb6⟩
        have L6 : Hid (Below w.heap.size w w6) := L5.out.trans (hb6.mono L5.out.size)
        clear hb6
        go_wp2
        go_ret
        exact ⟨rfl, L6.out⟩
#print axioms mountainTops_any
end Go.Proofs.YtinlpaabmojmkabDoor
