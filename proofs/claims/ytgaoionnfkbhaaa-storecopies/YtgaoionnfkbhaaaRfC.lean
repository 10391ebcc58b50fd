/-
  The reference's Scan: what the call does.
-/
import Derived.Test.YtgaoionnfkbhaaaRfB
namespace Go.Proofs.Ytgaoionnfkbhaaa
open Go.RowKit
theorem scanL_snoc {s : SP} {rs : List RK} {i : Nat} (h : i < rs.length) (a b : ByteArray) (n : Int) : scanL s ((rs.take (i + 1)).map (·.1)) a b n = scanL s ((rs.take i).map (·.1)) a b n ++ (if inr a b rs[i].1 = true then (scan1 s n rs[i].1).toList else []) := by
  unfold scanL
  rw [List.take_succ_eq_append_getElem h, List.map_append, List.filter_append, List.filterMap_append]
  congr 1
  simp only [List.map_cons, List.map_nil]
  cases hq : inr a b rs[i].1 with
  | true =>
    rw [if_pos rfl]
    cases hs : scan1 s n rs[i].1 with
    | none => simp [hq, hs]
    | some p => simp [hq, hs]
  | false => simp [hq]
theorem take_more {X : List Pr} {p : Pr} {m : Nat} (h : (X.take m).length < m) : (X ++ [p]).take m = X.take m ++ [p] := by
  rw [List.length_take] at h
  rw [List.take_of_length_le (by rw [List.length_append, List.length_singleton]; omega), List.take_of_length_le (by omega)]
theorem take_full {X : List Pr} {p : Pr} {m : Nat} (h : m ≤ (X.take m).length) : (X ++ [p]).take m = X.take m := by
  rw [List.length_take] at h
  rw [List.take_append_of_le_length (by omega)]
set_option maxRecDepth 100000 in
set_option maxHeartbeats 2000000 in
theorem vScan_any {w : World} {R : Nat} {vr : Value} {rs : List RK} {s : SP} (h : RS w R vr rs s) (hN : rs.length ≤ 1000000) (fa tb : ByteArray) (n mo : Int) : Calls Try.prog 31 #[.pointer (some ⟨R, 0, none⟩), .string fa, .string tb, .int .i64 n, .int .i64 mo] w fun e w' => ∃ v', e = .returned (.tuple #[v', .int .i64 (scanS s (rs.map (·.1)) fa tb n mo).2]) ∧ RdG PE w' v' (scanS s (rs.map (·.1)) fa tb n mo).1 ∧ Below w.heap.size w w' := by
  have CM := hide (vmay_any h n)
  obtain ⟨r, HR⟩ : ∃ r, Hid (mayP s n = r) := ⟨_, rfl⟩
  rw [HR.out] at CM
  have HS := hide h
  obtain ⟨a, cp, rfl⟩ := h.own.rd.slice
  have hn : rs.length ≤ 9223372036854775807 := Nat.le_trans h.own.rd.cap h.own.rd.max
  clear h
  have hz := Zrkey
  obtain ⟨n_, HN⟩ : ∃ n, Hid (rs.length = n) := ⟨_, rfl⟩
  rw [HN.out] at HS hn
  have c0 := HS.out.d.cell (j := 0) rfl
  rw [HN.out] at hN
  go_enter Try.func31, Try.ntmps31
  go_wp2_with fail
  refine CM.out.mono ?_
  rintro e w_ ⟨rfl, hw⟩
  subst w_
  by_cases hr : r = 0
  · subst hr
    have hz' := Zrver
    go_wp2_with fail
    go_loopg [13, 29] n_ (fun g y x wr => ∃ (i : Nat) (v : Value), g + i = n_ ∧ y = v ∧ x = .int .i64 (i : Int) ∧ Hid (OwnG PE wr w.heap.size 49 v ((scanL s ((rs.take i).map (·.1)) fa tb n).take mo.toNat)) ∧ Hid (Below w.heap.size w wr))
    case atStart => exact ⟨0, .slice none 0 0, by omega, rfl, rfl, (show OwnG _ _ _ _ _ _ by rw [show (scanL s ((rs.take 0).map (·.1)) fa tb n).take mo.toNat = [] by simp [scanL]]; exact ownG_nil _ _ _), Below.refl _ _⟩
    case round =>
      obtain ⟨i, v, hgi, hv, rfl, OR, LR⟩ := hrel
      replace hv := hv.symm
      subst hv
      by_cases hlt : i < n_
      · have q2 : (i : Int) < (n_ : Int) := by omega
        have hrd := hide (HS.out.own.rd.kept LR.out)
        obtain ⟨b, off, rfl, hlb4, hx⟩ := (hrd.out).nth (by omega)
        have hlt' : i < rs.length := by rw [HN.out]; exact hlt
        have hr : wr.rangeAt b (off + i * 2) (RKC rs[i]) := hx i hlt'
        obtain ⟨p, HPp⟩ : ∃ p, Hid (rs[i] = p) := ⟨rs[i], (show rs[i] = rs[i] from rfl)⟩
        rw [HPp.out] at hr
        clear hx hlb4
        go_upto_region 8 with (first
          | (refine wpList_load_mid rfl 69 _ rfl b (off + i * 2) rfl (RKC p) _ hr Try.underlying69 rfl Try.size69 ?_)
          | (refine wpList_store_new rfl 69 _ _ rfl wr _ (RKC p).toArray _ rfl rfl rfl Try.size69 rfl (all_one (RKC_one p)) ?_)
          | fail)
        obtain ⟨E, HE⟩ : ∃ E, Hid (wr.heap.size = E) := ⟨_, rfl⟩
        rw [HE.out]
        obtain ⟨w4, hw4⟩ : ∃ x, x = wr.alloc (.cells (RKC p).toArray 69 (0, 0)) := ⟨_, rfl⟩
        rw [← hw4]
        have G4 : Hid (Below wr.heap.size wr w4) := (show Below _ _ _ by rw [hw4]; exact (Below.refl _ _).alloc (Nat.le_refl _) _)
        have B4 : Hid (Blk w4 E 69 (RKC p)) := (show Blk _ _ _ _ by rw [hw4, ← HE.out]; exact Blk.new wr 69 (RKC p))
        clear hw4 hr
        have L4 : Hid (Below w.heap.size w w4) := LR.out.trans (G4.out.mono LR.out.size)
        have HC := hide ((HS.out.ch p (by rw [← HPp.out]; exact List.getElem_mem hlt')).kept L4.out)
        obtain ⟨X, HX⟩ : ∃ X, Hid (scanL s ((rs.take i).map (·.1)) fa tb n = X) := ⟨_, rfl⟩
        have HT : Hid (scanL s ((rs.take (i + 1)).map (·.1)) fa tb n = X ++ (if inr fa tb p.1 = true then (scan1 s n p.1).toList else [])) := (show _ = _ by rw [scanL_snoc hlt', HX.out, HPp.out])
        have hXl : X.length ≤ 1000000 := by
          rw [← HX.out]
          refine Nat.le_trans scan_len ?_
          rw [List.length_map, List.length_take]
          omega
        rw [HX.out] at OR
        obtain ⟨ky, ca, cn, cc⟩ := p
        simp only [rkv] at HC HT
        have d1 := B4.out.cell (j := 1) rfl
        simp only at d1
        obtain ⟨g1, g2, HG⟩ : ∃ x y, Hid (getP (s.ch ky) n = (x, y)) := ⟨_, _, rfl⟩
        have CG := hide (kget_any HC.out n)
        rw [HG.out] at CG
        go_wp2_with fail
        refine CG.out.mono ?_
        rintro e w5 ⟨rfl, hb5⟩
        have L5 : Hid (Below w.heap.size w w5) := L4.out.trans (hb5.mono L4.out.size)
        have B5 := hide (B4.out.kept hb5)
        have A6 : Hid (Below w5.heap.size w5 (w5.alloc (.cells (VC g1).toArray 87 (0, 0)))) := (Below.refl _ _).alloc (Nat.le_refl _) _
        have O6 : Hid (OwnG PE (w5.alloc (.cells (VC g1).toArray 87 (0, 0))) w.heap.size 49 v (X.take mo.toNat)) := (show OwnG _ _ _ _ _ _ from ((OR.out.kept G4.out).kept hb5).kept A6.out)
        clear hb5 CG d1
        have V6 := hide (Blk.new w5 87 (VC g1))
        have L6 : Hid (Below w.heap.size w (w5.alloc (.cells (VC g1).toArray 87 (0, 0)))) := L5.out.trans (A6.out.mono L5.out.size)
        have B6 := hide (B5.out.kept A6.out)
        have e0 := B6.out.cell (j := 0) rfl
        have e1 := V6.out.cell (j := 1) rfl
        simp only at e0
        cases g2 with
        | false =>
          have hs : scan1 s n ky = none := by unfold scan1; rw [HG.out]; rfl
          have HT' : Hid (scanL s ((rs.take (i + 1)).map (·.1)) fa tb n = X) := (show _ = _ by rw [HT.out, hs]; simp)
          clear hs
          have O8 : Hid (OwnG PE (w5.alloc (.cells (VC g1).toArray 87 (0, 0))) w.heap.size 49 v ((scanL s ((rs.take (i + 1)).map (·.1)) fa tb n).take mo.toNat)) := (show OwnG _ _ _ _ _ _ by rw [HT'.out]; exact O6.out)
          go_wp2_with (first
            | (refine wpList_store_new rfl 87 _ _ rfl w5 _ (VC g1).toArray _ rfl rfl rfl Try.size87 rfl (all_one (VC_one g1)) ?_)
            | fail)
          go_roundg (gk - 1)
          case measure => omega
          case rel => exact ⟨i + 1, v, by omega, rfl, by go_num, O8, L6⟩
        | true =>
          have hs : scan1 s n ky = some (ky, g1.2.1, false) := by unfold scan1; rw [HG.out]; rfl
          cases h1 : lt ky fa with
          | true =>
            have q3 : ∀ W, (binOp .geq 9 (.string ky) (.string fa)).run Try.prog W = .ok (.bool false) W := fun W => by rw [sge, h1]; rfl
            have hf : inr fa tb ky = false := by unfold inr; rw [h1]; rfl
            have HT' : Hid (scanL s ((rs.take (i + 1)).map (·.1)) fa tb n = X) := (show _ = _ by rw [HT.out, hf]; simp)
            clear hs hf
            have O8 : Hid (OwnG PE (w5.alloc (.cells (VC g1).toArray 87 (0, 0))) w.heap.size 49 v ((scanL s ((rs.take (i + 1)).map (·.1)) fa tb n).take mo.toNat)) := (show OwnG _ _ _ _ _ _ by rw [HT'.out]; exact O6.out)
            go_wp2_with (first
              | (refine wpList_store_new rfl 87 _ _ rfl w5 _ (VC g1).toArray _ rfl rfl rfl Try.size87 rfl (all_one (VC_one g1)) ?_)
              | fail)
            go_roundg (gk - 1)
            case measure => omega
            case rel => exact ⟨i + 1, v, by omega, rfl, by go_num, O8, L6⟩
          | false =>
            have q3 : ∀ W, (binOp .geq 9 (.string ky) (.string fa)).run Try.prog W = .ok (.bool true) W := fun W => by rw [sge, h1]; rfl
            cases h2 : lt ky tb with
            | false =>
              have q4 : Op.bytesLess ky.toList tb.toList = false := h2
              have hf : inr fa tb ky = false := by unfold inr; rw [h1, h2]; rfl
              have HT' : Hid (scanL s ((rs.take (i + 1)).map (·.1)) fa tb n = X) := (show _ = _ by rw [HT.out, hf]; simp)
              clear hs hf
              have O8 : Hid (OwnG PE (w5.alloc (.cells (VC g1).toArray 87 (0, 0))) w.heap.size 49 v ((scanL s ((rs.take (i + 1)).map (·.1)) fa tb n).take mo.toNat)) := (show OwnG _ _ _ _ _ _ by rw [HT'.out]; exact O6.out)
              go_wp2_with (first
                | (refine wpList_store_new rfl 87 _ _ rfl w5 _ (VC g1).toArray _ rfl rfl rfl Try.size87 rfl (all_one (VC_one g1)) ?_)
                | fail)
              go_roundg (gk - 1)
              case measure => omega
              case rel => exact ⟨i + 1, v, by omega, rfl, by go_num, O8, L6⟩
            | true =>
              have q4 : Op.bytesLess ky.toList tb.toList = true := h2
              have HT2 : Hid (scanL s ((rs.take (i + 1)).map (·.1)) fa tb n = X ++ [(ky, g1.2.1, false)]) := (show _ = _ by rw [HT.out, hs, show inr fa tb ky = true by unfold inr; rw [h1, h2]; rfl]; rfl)
              clear hs h1 h2
              obtain ⟨av, cv, ev⟩ := O6.out.rd.slice
              obtain ⟨l, HLn⟩ : ∃ l, Hid ((X.take mo.toNat).length = l) := ⟨_, rfl⟩
              rw [HLn.out] at ev
              by_cases hlm : (l : Int) < mo
              · have q5 : decide ((l : Int) < mo) = true := by simp [hlm]
                have hbd : ∀ W, (Instr.build 49 #[(0, .string ky), (1, .string g1.2.1)]).run Try.prog W = .ok (.agg #[.string ky, .string g1.2.1, .bool false]) W := fun W => by kernel_rfl
                have hl2 : l ≤ 1000000 := by rw [← HLn.out, List.length_take]; omega
                have A7 : Hid (Below (w5.alloc (.cells (VC g1).toArray 87 (0, 0))).heap.size (w5.alloc (.cells (VC g1).toArray 87 (0, 0))) ((w5.alloc (.cells (VC g1).toArray 87 (0, 0))).alloc (.cells #[.string ky, .string g1.2.1, .bool false] 49 (0, 0)))) := (Below.refl _ _).alloc (Nat.le_refl _) _
                have OA : Hid (OwnG PE ((w5.alloc (.cells (VC g1).toArray 87 (0, 0))).alloc (.cells #[.string ky, .string g1.2.1, .bool false] 49 (0, 0))) w.heap.size 49 v (X.take mo.toNat)) := O6.out.kept A7.out
                have RA : Hid (RdG PE ((w5.alloc (.cells (VC g1).toArray 87 (0, 0))).alloc (.cells #[.string ky, .string g1.2.1, .bool false] 49 (0, 0))) (.slice (some ⟨w5.heap.size + 1, 0, none⟩) 1 1) [(ky, g1.2.1, false)]) := (show RdG _ _ _ _ by have hq := rdG_one (E := PE) (w5.alloc (.cells (VC g1).toArray 87 (0, 0))) 49 (ky, g1.2.1, false); rw [show (w5.alloc (.cells (VC g1).toArray 87 (0, 0))).heap.size = w5.heap.size + 1 by simp] at hq; exact hq)
                have hb1 : Hid (((X.take mo.toNat).length + [(ky, g1.2.1, false)].length) * 40 ≤ 140737488355328) := (show ((X.take mo.toNat).length + 1) * 40 ≤ 140737488355328 by rw [HLn.out]; omega)
                have hb2 : Hid ((X.take mo.toNat).length + [(ky, g1.2.1, false)].length ≤ maxLen) := (show (X.take mo.toNat).length + 1 ≤ maxLen by rw [HLn.out]; simp only [maxLen]; omega)
                have hb3 : Hid (w.heap.size ≤ ((w5.alloc (.cells (VC g1).toArray 87 (0, 0))).alloc (.cells #[.string ky, .string g1.2.1, .bool false] 49 (0, 0))).heap.size) := (show w.heap.size ≤ _ from Nat.le_trans L6.out.size A7.out.size)
                have L7 : Hid (Below w.heap.size w ((w5.alloc (.cells (VC g1).toArray 87 (0, 0))).alloc (.cells #[.string ky, .string g1.2.1, .bool false] 49 (0, 0)))) := L6.out.trans (A7.out.mono L6.out.size)
                have HTK : Hid ((X ++ [(ky, g1.2.1, false)]).take mo.toNat = X.take mo.toNat ++ [(ky, g1.2.1, false)]) := (show _ = _ from take_more (by rw [HLn.out]; omega))
                subst ev
                go_wp2_with (first
                  | (refine wpList_store_new rfl 87 _ _ rfl w5 _ (VC g1).toArray _ rfl rfl rfl Try.size87 rfl (all_one (VC_one g1)) ?_)
                  | (at_builtin; refine wpList_append_G _ rfl _ _ 31 31 rfl w.heap.size 49 (.agg #[.string ⟨#[]⟩, .string ⟨#[]⟩, .bool false]) 40 Try.underlying31 Try.info49 rfl _ _ rfl OA.out _ [(ky, g1.2.1, false)] rfl RA.out 49 Try.underlying31 hb1.out hb2.out hb3.out ?_; intro v7 w7 o7 g7; have O7 := hide o7; have G7 := hide g7; clear o7 g7)
                  | fail)
                have O8 : Hid (OwnG PE w7 w.heap.size 49 v7 ((scanL s ((rs.take (i + 1)).map (·.1)) fa tb n).take mo.toNat)) := (show OwnG _ _ _ _ _ _ by rw [HT2.out, HTK.out]; exact O7.out)
                have L8 : Hid (Below w.heap.size w w7) := L7.out.trans (below_of_grown _ OA.out G7.out hb3.out)
                clear OA RA hb1 hb2 hb3 O7 G7 A7
                go_roundg (gk - 1)
                case measure => omega
                case rel => exact ⟨i + 1, v7, by omega, rfl, by go_num, O8, L8⟩
              · have q5 : decide ((l : Int) < mo) = false := by simp; omega
                have O8 : Hid (OwnG PE (w5.alloc (.cells (VC g1).toArray 87 (0, 0))) w.heap.size 49 v ((scanL s ((rs.take (i + 1)).map (·.1)) fa tb n).take mo.toNat)) := (show OwnG _ _ _ _ _ _ by
                  rw [HT2.out, take_full (by rw [HLn.out]; omega)]
                  exact O6.out)
                subst ev
                go_wp2_with (first
                  | (refine wpList_store_new rfl 87 _ _ rfl w5 _ (VC g1).toArray _ rfl rfl rfl Try.size87 rfl (all_one (VC_one g1)) ?_)
                  | fail)
                go_roundg (gk - 1)
                case measure => omega
                case rel => exact ⟨i + 1, _, by omega, rfl, by go_num, O8, L6⟩
      · obtain rfl : i = n_ := by omega
        have q2 : ¬ (i : Int) < (i : Int) := by omega
        have HY : Hid (scanS s (rs.map (·.1)) fa tb n mo = ((scanL s (rs.map (·.1)) fa tb n).take mo.toNat, 0)) := (show _ = _ by unfold scanS; rw [if_pos HR.out])
        have O8 : Hid (RdG PE wr v ((scanL s (rs.map (·.1)) fa tb n).take mo.toNat)) := (show RdG _ _ _ _ by
          have := OR.out.rd
          rw [List.take_of_length_le (Nat.le_of_eq HN.out)] at this
          exact this)
        go_wp2_with fail
        go_ret2
        exact ⟨v, by rw [HY.out]; rfl, by rw [HY.out]; exact O8.out, LR.out⟩
  · have q1 : (r != 0) = true := by simp [hr]
    have HY : Hid (scanS s (rs.map (·.1)) fa tb n mo = ([], r)) := (show _ = _ by unfold scanS; rw [HR.out, if_neg hr])
    go_wp2_with fail
    go_ret2
    exact ⟨.slice none 0 0, by rw [HY.out]; rfl, by rw [HY.out]; exact RdG_nil _, Below.refl _ _⟩
#print axioms vScan_any
end Go.Proofs.Ytgaoionnfkbhaaa
