/-
  The reference's Since, Cut, and plain: what the calls do.
-/
import Derived.Test.YtcngkeilleeanaaChE
namespace Go.Proofs.Ytcngkeilleeanaa
open Go.RowKit

theorem take_snoc {L : List Ver} {i : Nat} (h : i < L.length) : L.take (i + 1) = L.take i ++ [L[i]] := List.take_succ_eq_append_getElem h
theorem past_snoc (n : Int) (M : List Ver) (v : Ver) : past n (M ++ [v]) = past n M ++ if n < v.1 then [v] else [] := by
  unfold past
  rw [List.filter_append]
  congr 1
  by_cases h : n < v.1 <;> simp [h]
theorem upto_snoc (n : Int) (M : List Ver) (v : Ver) : upto n (M ++ [v]) = upto n M ++ if v.1 ≤ n then [v] else [] := by
  unfold upto
  rw [List.filter_append]
  congr 1
  by_cases h : v.1 ≤ n <;> simp [h]

theorem build1 (p : Ver) (W : World) : (Instr.buildSlice 25 1 #[(0, .agg (VC p).toArray)]).run Try.prog W = .ok (.slice (some ⟨W.heap.size, 0, none⟩) 1 1) (W.alloc (.cells (VC p).toArray 31 (0, 0))) := by
  kernel_rfl
theorem wpList_build1 {ops : Array Oper} {rest : List Oper} {op : Oper} {a : Act} {w : World} {Q : Exit → Act → World → Prop} (hgd : op.guard = none) (x : Operand) (ho : op.op = .buildSlice 25 1 #[(0, x)]) (p : Ver) (hx : a.eval x = .agg (VC p).toArray)
    (h : wpList Try.prog ops Q rest (a.put op.dst (.slice (some ⟨w.heap.size, 0, none⟩) 1 1)) (w.alloc (.cells (VC p).toArray 31 (0, 0)))) : wpList Try.prog ops Q (op :: rest) a w := by
  refine wpList_plain hgd fun K hK => ?_
  have hr := build1 p w
  unfold Oper.wp execOp
  simp only [ho, hx, hr, List.map_toArray, List.map_cons, List.map_nil, Sem.run_bind, Sem.run_pure, Result.andThen_ok]
  exact hK _ _ h
/-- append(out, v). -/
theorem src_one (P : Program) (W : World) (p : Ver) (T t e : TypeId) (hk : P.underlying t = some (.slice e)) : Src P 3 t (.slice (some ⟨W.heap.size, 0, none⟩) 1 1) [p].length (VCs [p]) (W.alloc (.cells (VC p).toArray T (0, 0))) :=
  RdV.src (L := [p]) (rdV_one W T p) t e hk

set_option maxHeartbeats 1000000 in
set_option maxRecDepth 100000 in
theorem ksince_any {w : World} {v : Value} {L : List Ver} (h : RdV w v L) (snap : Int) :
    Calls Try.prog 18 #[v, .int .i64 snap] w fun e w' => e = .returned (.int .i64 (sinceP L snap : Int)) ∧ Below w.heap.size w w' := by
  have HL := hide h
  obtain ⟨a, cp, rfl⟩ := h.slice
  have hn : L.length ≤ 9223372036854775807 := Nat.le_trans h.cap h.max
  clear h
  have hz := Zrver
  obtain ⟨n, HN⟩ : ∃ n, Hid (L.length = n) := ⟨_, rfl⟩
  rw [HN.out] at HL hn ⊢
  go_enter Try.func18, Try.ntmps18
  go_wp2_with fail
  refine (kgood_any HL.out).mono ?_
  rintro e w5 ⟨rfl, hb5⟩
  have L5 := hide hb5
  clear hb5
  obtain ⟨q, HQ⟩ : ∃ q, Hid (gd 0 L = q) := ⟨_, rfl⟩
  rw [HQ.out]
  cases q with
  | false =>
    have HF : Hid (sinceP L snap = 0) := (show _ = _ by unfold sinceP; rw [HQ.out]; rfl)
    go_wp2_with fail
    go_ret
    exact ⟨by rw [HF.out]; rfl, L5.out⟩
  | true =>
    go_wp2_with fail
    go_loopg [5, 13] n (fun g y x wr => ∃ (i k : Nat), g + i = n ∧ k ≤ i ∧ y = .int .i64 (k : Int) ∧ x = .int .i64 (i : Int) ∧ Hid (k = (past snap (L.take i)).length) ∧ Hid (Below w.heap.size w wr))
    case atStart => exact ⟨0, 0, by omega, Nat.le_refl _, rfl, rfl, rfl, L5⟩
    case round =>
      obtain ⟨i, k, hgi, hki, rfl, rfl, HK, LR⟩ := hrel
      by_cases hlt : i < n
      · have q2 : (i : Int) < (n : Int) := by omega
        obtain ⟨b, off, rfl, hlb, hx⟩ := (HL.out.kept LR.out).nth (by omega)
        have hlt' : i < L.length := by rw [HN.out]; exact hlt
        have hr := hx i hlt'
        obtain ⟨p, HP⟩ : ∃ p, Hid (L[i] = p) := ⟨L[i], (show L[i] = L[i] from rfl)⟩
        rw [HP.out] at hr
        clear hx
        go_upto_region 7 with (first
          | (refine wpList_load_mid rfl 31 _ rfl b (off + i * 3) rfl (VC p) _ hr Try.underlying31 rfl Try.size31 ?_)
          | (refine wpList_store_new rfl 31 _ _ rfl wr _ (VC p).toArray _ rfl rfl rfl Try.size31 rfl (all_one (VC_one p)) ?_)
          | fail)
        obtain ⟨E, HE⟩ : ∃ E, Hid (wr.heap.size = E) := ⟨_, rfl⟩
        rw [HE.out]
        obtain ⟨w4, hw4⟩ : ∃ x, x = wr.alloc (.cells (VC p).toArray 31 (0, 0)) := ⟨_, rfl⟩
        rw [← hw4]
        have G4 : Hid (Below wr.heap.size wr w4) := (show Below _ _ _ by rw [hw4]; exact (Below.refl _ _).alloc (Nat.le_refl _) _)
        have L4 : Hid (Below w.heap.size w w4) := LR.out.trans (G4.out.mono LR.out.size)
        have B4 : Hid (Blk w4 E 31 (VC p)) := (show Blk _ _ _ _ by rw [hw4, ← HE.out]; exact Blk.new wr 31 (VC p))
        clear hw4 hr
        have c0 := B4.out.cell (j := 0) rfl
        have HS : Hid ((past snap (L.take (i + 1))).length = k + if snap < p.1 then 1 else 0) := (show _ = _ by
          rw [take_snoc hlt', past_snoc, List.length_append, ← HK.out, HP.out]
          by_cases hx : snap < p.1 <;> simp [hx])
        obtain ⟨x, s, d⟩ := p
        simp only at c0 HS
        by_cases hx : snap < x
        · rw [if_pos hx] at HS
          go_wp2_with fail
          go_roundg (gk - 1)
          case measure => omega
          case rel => exact ⟨i + 1, k + 1, by omega, by omega, by go_num, by go_num, HS.out.symm, L4⟩
        · rw [if_neg hx] at HS
          have q3 : decide (snap < x) = false := by simp; omega
          go_wp2_with fail
          go_roundg (gk - 1)
          case measure => omega
          case rel => exact ⟨i + 1, k, by omega, by omega, rfl, by go_num, HS.out.symm, L4⟩
      · obtain rfl : i = n := by omega
        have q2 : ¬ (i : Int) < (i : Int) := by omega
        have HF : Hid (sinceP L snap = k) := (show _ = _ by
          unfold sinceP
          rw [if_pos HQ.out, HK.out, List.take_of_length_le (by rw [HN.out]; exact Nat.le_refl _)])
        go_wp2_with fail
        go_ret
        exact ⟨by rw [HF.out]; rfl, LR.out⟩
#print axioms ksince_any

set_option maxHeartbeats 1000000 in
set_option maxRecDepth 100000 in
theorem kcut_any {w : World} {v : Value} {L : List Ver} (h : RdV w v L) (hl : L.length ≤ 4398046511104) (snap : Int) :
    Calls Try.prog 25 #[v, .int .i64 snap] w fun e w' => ∃ v', e = .returned v' ∧ OwnV w' w.heap.size 31 v' (cutP L snap) ∧ Below w.heap.size w w' := by
  obtain ⟨i0, hi0, hz0, hz1, hz2⟩ := info_parts Try.info31
  have HL := hide h
  obtain ⟨a, cp, rfl⟩ := h.slice
  have hn : L.length ≤ 9223372036854775807 := Nat.le_trans h.cap h.max
  clear h
  have hz := Zrver
  obtain ⟨n, HN⟩ : ∃ n, Hid (L.length = n) := ⟨_, rfl⟩
  rw [HN.out] at HL hn hl ⊢
  go_enter Try.func25, Try.ntmps25
  go_wp2_with fail
  refine (kgood_any HL.out).mono ?_
  rintro e w5 ⟨rfl, hb5⟩
  have L5 := hide hb5
  clear hb5
  obtain ⟨q, HQ⟩ : ∃ q, Hid (gd 0 L = q) := ⟨_, rfl⟩
  rw [HQ.out]
  cases q with
  | false =>
    have HF : Hid (cutP L snap = []) := (show _ = _ by unfold cutP; rw [HQ.out]; rfl)
    go_wp2_with fail
    go_ret
    exact ⟨_, rfl, by rw [HF.out]; exact ownV_nil _ _ _, L5.out⟩
  | true =>
    go_wp2_with fail
    go_loopg [5, 13] n (fun g y x wr => ∃ (i : Nat), g + i = n ∧ x = .int .i64 (i : Int) ∧ Hid (OwnV wr w.heap.size 31 y (upto snap (L.take i))) ∧ Hid (Below w.heap.size w wr))
    case atStart => exact ⟨0, by omega, rfl, ownV_nil _ _ _, L5⟩
    case round =>
      obtain ⟨i, hgi, rfl, HO, LR⟩ := hrel
      by_cases hlt : i < n
      · have q2 : (i : Int) < (n : Int) := by omega
        obtain ⟨b, off, rfl, hlb, hx⟩ := (HL.out.kept LR.out).nth (by omega)
        have hlt' : i < L.length := by rw [HN.out]; exact hlt
        have hr := hx i hlt'
        obtain ⟨p, HP⟩ : ∃ p, Hid (L[i] = p) := ⟨L[i], (show L[i] = L[i] from rfl)⟩
        rw [HP.out] at hr
        clear hx
        go_upto_region 7 with (first
          | (refine wpList_load_mid rfl 31 _ rfl b (off + i * 3) rfl (VC p) _ hr Try.underlying31 rfl Try.size31 ?_)
          | (refine wpList_store_new rfl 31 _ _ rfl wr _ (VC p).toArray _ rfl rfl rfl Try.size31 rfl (all_one (VC_one p)) ?_)
          | fail)
        obtain ⟨E, HE⟩ : ∃ E, Hid (wr.heap.size = E) := ⟨_, rfl⟩
        rw [HE.out]
        obtain ⟨w4, hw4⟩ : ∃ x, x = wr.alloc (.cells (VC p).toArray 31 (0, 0)) := ⟨_, rfl⟩
        rw [← hw4]
        have G4 : Hid (Below wr.heap.size wr w4) := (show Below _ _ _ by rw [hw4]; exact (Below.refl _ _).alloc (Nat.le_refl _) _)
        have L4 : Hid (Below w.heap.size w w4) := LR.out.trans (G4.out.mono LR.out.size)
        have B4 : Hid (Blk w4 E 31 (VC p)) := (show Blk _ _ _ _ by rw [hw4, ← HE.out]; exact Blk.new wr 31 (VC p))
        clear hw4 hr
        have c0 := B4.out.cell (j := 0) rfl
        have O4 := hide (HO.out.kept G4.out)
        have HS : Hid (upto snap (L.take (i + 1)) = upto snap (L.take i) ++ if p.1 ≤ snap then [p] else []) := (show _ = _ by
          rw [take_snoc hlt', upto_snoc, HP.out])
        have HLn : Hid ((upto snap (L.take i)).length ≤ n) := (show _ ≤ _ by
          have := upto_le snap (L.take i)
          rw [List.length_take] at this
          omega)
        by_cases hx : p.1 ≤ snap
        · rw [if_pos hx] at HS
          have q3 : decide (p.1 ≤ snap) = true := by simp [hx]
          have R4 := B4.out.range0
          have HLn2 : Hid ((upto snap (L.take i)).length + [p].length ≤ 4398046511104) := (show _ ≤ _ by
            have := upto_le snap (L.take i)
            rw [List.length_take] at this
            simp
            omega)
          have a4 : Below w4.heap.size w4 (w4.alloc (.cells (VC p).toArray 31 (0, 0))) := (Below.refl _ _).alloc (Nat.le_refl _) _
          have O5 := hide (O4.out.kept a4)
          have L5' : Hid (Below w.heap.size w (w4.alloc (.cells (VC p).toArray 31 (0, 0)))) := L4.out.trans (a4.mono L4.out.size)
          clear a4
          go_wp2_with (first
            | (refine wpList_load_mid rfl 31 _ rfl E 0 rfl (VC p) _ R4 Try.underlying31 rfl Try.size31 ?_)
            | (refine wpList_build1 rfl _ rfl p rfl ?_)
            | (at_builtin; refine wpList_append_vers _ rfl _ _ 25 25 rfl w.heap.size 31 i0 Try.underlying25 hi0 hz0 hz1 hz2 _ _ rfl O5.out _ [p] rfl (src_one Try.prog w4 p 31 25 31 Try.underlying25) HLn2.out L5'.out.size ?_; intro v6 w6 o6 b6; have O6 := hide o6; have B6 := hide b6; clear o6 b6)
            | fail)
          go_roundg (gk - 1)
          case measure => omega
          case rel => exact ⟨i + 1, by omega, by go_num, (show OwnV _ _ _ _ _ by rw [HS.out]; exact O6.out), L5'.out.trans B6.out⟩
        · rw [if_neg hx, List.append_nil] at HS
          have q3 : decide (p.1 ≤ snap) = false := by simp; omega
          go_wp2_with fail
          go_roundg (gk - 1)
          case measure => omega
          case rel => exact ⟨i + 1, by omega, by go_num, (show OwnV _ _ _ _ _ by rw [HS.out]; exact O4.out), L4⟩
      · obtain rfl : i = n := by omega
        have q2 : ¬ (i : Int) < (i : Int) := by omega
        have HF : Hid (cutP L snap = upto snap (L.take i)) := (show _ = _ by
          unfold cutP
          rw [if_pos HQ.out, List.take_of_length_le (by rw [HN.out]; exact Nat.le_refl _)])
        go_wp2_with fail
        go_ret
        exact ⟨_, rfl, by rw [HF.out]; exact HO.out, LR.out⟩
#print axioms kcut_any

set_option maxHeartbeats 1000000 in
set_option maxRecDepth 100000 in
theorem plain_any {w : World} {v : Value} {L : List Ver} (h : RdV w v L) (hl : L.length ≤ 4398046511104) :
    Calls Try.prog 10 #[v] w fun e w' => ∃ v', e = .returned v' ∧ OwnV w' w.heap.size 31 v' L ∧ Below w.heap.size w w' := by
  obtain ⟨i0, hi0, hz0, hz1, hz2⟩ := info_parts Try.info31
  have HL := hide h
  obtain ⟨a, cp, rfl⟩ := h.slice
  have hn : L.length ≤ 9223372036854775807 := Nat.le_trans h.cap h.max
  clear h
  have hz := Zver
  obtain ⟨n, HN⟩ : ∃ n, Hid (L.length = n) := ⟨_, rfl⟩
  rw [HN.out] at HL hn hl ⊢
  go_enter Try.func10, Try.ntmps10
  go_wp2_with fail
  go_loopg [3, 8] n (fun g y x wr => ∃ (i : Nat), g + i = n ∧ x = .int .i64 (i : Int) ∧ Hid (OwnV wr w.heap.size 31 y (L.take i)) ∧ Hid (Below w.heap.size w wr))
  case atStart => exact ⟨0, by omega, rfl, ownV_nil _ _ _, Below.refl _ _⟩
  case round =>
    obtain ⟨i, hgi, rfl, HO, LR⟩ := hrel
    by_cases hlt : i < n
    · have q2 : (i : Int) < (n : Int) := by omega
      obtain ⟨b, off, rfl, hlb, hx⟩ := (HL.out.kept LR.out).nth (by omega)
      have hlt' : i < L.length := by rw [HN.out]; exact hlt
      have hr := hx i hlt'
      obtain ⟨p, HP⟩ : ∃ p, Hid (L[i] = p) := ⟨L[i], (show L[i] = L[i] from rfl)⟩
      rw [HP.out] at hr
      clear hx
      go_upto_region 5 with (first
        | (refine wpList_load_mid rfl 28 _ rfl b (off + i * 3) rfl (VC p) _ hr Try.underlying28 rfl Try.size28 ?_)
        | (refine wpList_store_new rfl 28 _ _ rfl wr _ (VC p).toArray _ rfl rfl rfl Try.size28 rfl (all_one (VC_one p)) ?_)
        | fail)
      obtain ⟨E, HE⟩ : ∃ E, Hid (wr.heap.size = E) := ⟨_, rfl⟩
      rw [HE.out]
      obtain ⟨w4, hw4⟩ : ∃ x, x = wr.alloc (.cells (VC p).toArray 28 (0, 0)) := ⟨_, rfl⟩
      rw [← hw4]
      have G4 : Hid (Below wr.heap.size wr w4) := (show Below _ _ _ by rw [hw4]; exact (Below.refl _ _).alloc (Nat.le_refl _) _)
      have L4 : Hid (Below w.heap.size w w4) := LR.out.trans (G4.out.mono LR.out.size)
      have B4 : Hid (Blk w4 E 28 (VC p)) := (show Blk _ _ _ _ by rw [hw4, ← HE.out]; exact Blk.new wr 28 (VC p))
      clear hw4 hr
      have O4 := hide (HO.out.kept G4.out)
      have HS : Hid (L.take (i + 1) = L.take i ++ [p]) := (show _ = _ by rw [take_snoc hlt', HP.out])
      have R4 := B4.out.range0
      have HLn2 : Hid ((L.take i).length + [p].length ≤ 4398046511104) := (show _ ≤ _ by
        rw [List.length_take]
        simp
        omega)
      have a4 : Below w4.heap.size w4 (w4.alloc (.cells (VC p).toArray 31 (0, 0))) := (Below.refl _ _).alloc (Nat.le_refl _) _
      have O5 := hide (O4.out.kept a4)
      have L5' : Hid (Below w.heap.size w (w4.alloc (.cells (VC p).toArray 31 (0, 0)))) := L4.out.trans (a4.mono L4.out.size)
      clear a4
      go_wp2_with (first
        | (refine wpList_load_mid rfl 28 _ rfl E 0 rfl (VC p) _ R4 Try.underlying28 rfl Try.size28 ?_)
        | (refine wpList_build1 rfl _ rfl p rfl ?_)
        | (at_builtin; refine wpList_append_vers _ rfl _ _ 25 25 rfl w.heap.size 31 i0 Try.underlying25 hi0 hz0 hz1 hz2 _ _ rfl O5.out _ [p] rfl (src_one Try.prog w4 p 31 25 31 Try.underlying25) HLn2.out L5'.out.size ?_; intro v6 w6 o6 b6; have O6 := hide o6; have B6 := hide b6; clear o6 b6)
        | fail)
      go_roundg (gk - 1)
      case measure => omega
      case rel => exact ⟨i + 1, by omega, by go_num, (show OwnV _ _ _ _ _ by rw [HS.out]; exact O6.out), L5'.out.trans B6.out⟩
    · obtain rfl : i = n := by omega
      have q2 : ¬ (i : Int) < (i : Int) := by omega
      have HF : Hid (L.take i = L) := List.take_of_length_le (by rw [HN.out]; exact Nat.le_refl _)
      rw [HF.out] at HO
      go_wp2_with fail
      go_ret
      exact ⟨_, rfl, HO.out, LR.out⟩
#print axioms plain_any
end Go.Proofs.Ytcngkeilleeanaa
