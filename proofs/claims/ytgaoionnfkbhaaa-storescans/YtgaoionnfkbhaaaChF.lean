/-
  The reference's Since, Cut, and plain: what the calls do.
-/
import Derived.Test.YtgaoionnfkbhaaaChE
namespace Go.Proofs.Ytgaoionnfkbhaaa
open Go.RowKit

theorem take_snoc {L : List Ver} {i : Nat} (h : i < L.length) : L.take (i + 1) = L.take i ++ [L[i]] := List.take_succ_eq_append_getElem h
theorem past_snoc (n : Int) (M : List Ver) (v : Ver) : past n (M ++ [v]) = past n M ++ if n < v.1 then [v] else [] := by
  unfold past
  rw [List.filter_append]
  congr 1
  by_cases h : n < v.1 <;> simp [h]
theorem upto_snoc (n : Int) (M : List Ver) (v : Ver) : upto n (M ++ [v]) = upto n M ++ if v.1 ≤ n then [v] else [] := by
  unfold upto
  rw [List.filter_append]
  congr 1
  by_cases h : v.1 ≤ n <;> simp [h]

theorem build1 (p : Ver) (W : World) : (Instr.buildSlice 67 1 #[(0, .agg (VC p).toArray)]).run Try.prog W = .ok (.slice (some ⟨W.heap.size, 0, none⟩) 1 1) (W.alloc (.cells (VC p).toArray 87 (0, 0))) := by
  kernel_rfl
theorem wpList_build1 {ops : Array Oper} {rest : List Oper} {op : Oper} {a : Act} {w : World} {Q : Exit → Act → World → Prop} (hgd : op.guard = none) (x : Operand) (ho : op.op = .buildSlice 67 1 #[(0, x)]) (p : Ver) (hx : a.eval x = .agg (VC p).toArray)
    (h : wpList Try.prog ops Q rest (a.put op.dst (.slice (some ⟨w.heap.size, 0, none⟩) 1 1)) (w.alloc (.cells (VC p).toArray 87 (0, 0)))) : wpList Try.prog ops Q (op :: rest) a w := by
  refine wpList_plain hgd fun K hK => ?_
  have hr := build1 p w
  unfold Oper.wp execOp
  simp only [ho, hx, hr, List.map_toArray, List.map_cons, List.map_nil, Sem.run_bind, Sem.run_pure, Result.andThen_ok]
  exact hK _ _ h
/-- append(out, v). -/
theorem src_one (P : Program) (W : World) (p : Ver) (T t e : TypeId) (hk : P.underlying t = some (.slice e)) : Src P 3 t (.slice (some ⟨W.heap.size, 0, none⟩) 1 1) [p].length (VCs [p]) (W.alloc (.cells (VC p).toArray T (0, 0))) :=
  RdV.src (L := [p]) (rdV_one W T p) t e hk

set_option maxHeartbeats 1000000 in
set_option maxRecDepth 100000 in
theorem ksince_any {w : World} {v : Value} {L : List Ver} (h : RdV w v L) (snap : Int) :
    Calls Try.prog 36 #[v, .int .i64 snap] w fun e w' => e = .returned (.int .i64 (sinceP L snap : Int)) ∧ Below w.heap.size w w' := by
  have HL := hide h
  obtain ⟨a, cp, rfl⟩ := h.slice
  have hn : L.length ≤ 9223372036854775807 := Nat.le_trans h.cap h.max
  clear h
  have hz := Zrver
  obtain ⟨n, HN⟩ : ∃ n, Hid (L.length = n) := ⟨_, rfl⟩
  rw [HN.out] at HL hn ⊢
  go_enter Try.func36, Try.ntmps36
  go_wp2_with fail
  refine (kgood_any HL.out).mono ?_
  rintro e w5 ⟨rfl, hb5⟩
  have L5 := hide hb5
  clear hb5
  obtain ⟨q, HQ⟩ : ∃ q, Hid (gd 0 L = q) := ⟨_, rfl⟩
  rw [HQ.out]
  cases q with
  | false =>
    have HF : Hid (sinceP L snap = 0) := (show _ = _ by unfold sinceP; rw [HQ.out]; rfl)
    go_wp2_with fail
    go_ret
    exact ⟨by rw [HF.out]; rfl, L5.out⟩
  | true =>
    go_wp2_with fail
    go_loopg [5, 13] n (fun g y x wr => ∃ (i k : Nat), g + i = n ∧ k ≤ i ∧ y = .int .i64 (k : Int) ∧ x = .int .i64 (i : Int) ∧ Hid (k = (past snap (L.take i)).length) ∧ Hid (Below w.heap.size w wr))
    case atStart => exact ⟨0, 0, by omega, Nat.le_refl _, rfl, rfl, rfl, L5⟩
    case round =>
      obtain ⟨i, k, hgi, hki, rfl, rfl, HK, LR⟩ := hrel
      by_cases hlt : i < n
      · have q2 : (i : Int) < (n : Int) := by omega
        obtain ⟨b, off, rfl, hlb, hx⟩ := (HL.out.kept LR.out).nth (by omega)
        have hlt' : i < L.length := by rw [HN.out]; exact hlt
        have hr := hx i hlt'
        obtain ⟨p, HP⟩ : ∃ p, Hid (L[i] = p) := ⟨L[i], (show L[i] = L[i] from rfl)⟩
        rw [HP.out] at hr
        clear hx
        go_upto_region 7 with (first
          | (refine wpList_load_mid rfl 87 _ rfl b (off + i * 3) rfl (VC p) _ hr Try.underlying87 rfl Try.size87 ?_)
          | (refine wpList_store_new rfl 87 _ _ rfl wr _ (VC p).toArray _ rfl rfl rfl Try.size87 rfl (all_one (VC_one p)) ?_)
          | fail)
        obtain ⟨E, HE⟩ : ∃ E, Hid (wr.heap.size = E) := ⟨_, rfl⟩
        rw [HE.out]
        obtain ⟨w4, hw4⟩ : ∃ x, x = wr.alloc (.cells (VC p).toArray 87 (0, 0)) := ⟨_, rfl⟩
        rw [← hw4]
        have G4 : Hid (Below wr.heap.size wr w4) := (show Below _ _ _ by rw [hw4]; exact (Below.refl _ _).alloc (Nat.le_refl _) _)
        have L4 : Hid (Below w.heap.size w w4) := LR.out.trans (G4.out.mono LR.out.size)
        have B4 : Hid (Blk w4 E 87 (VC p)) := (show Blk _ _ _ _ by rw [hw4, ← HE.out]; exact Blk.new wr 87 (VC p))
        clear hw4 hr
        have c0 := B4.out.cell (j := 0) rfl
        have HS : Hid ((past snap (L.take (i + 1))).length = k + if snap < p.1 then 1 else 0) := (show _ = _ by
          rw [take_snoc hlt', past_snoc, List.length_append, ← HK.out, HP.out]
          by_cases hx : snap < p.1 <;> simp [hx])
        obtain ⟨x, s, d⟩ := p
        simp only at c0 HS
        by_cases hx : snap < x
        · rw [if_pos hx] at HS
          go_wp2_with fail
          go_roundg (gk - 1)
          case measure => omega
          case rel => exact ⟨i + 1, k + 1, by omega, by omega, by go_num, by go_num, HS.out.symm, L4⟩
        · rw [if_neg hx] at HS
          have q3 : decide (snap < x) = false := by simp; omega
          go_wp2_with fail
          go_roundg (gk - 1)
          case measure => omega
          case rel => exact ⟨i + 1, k, by omega, by omega, rfl, by go_num, HS.out.symm, L4⟩
      · obtain rfl : i = n := by omega
        have q2 : ¬ (i : Int) < (i : Int) := by omega
        have HF : Hid (sinceP L snap = k) := (show _ = _ by
          unfold sinceP
          rw [if_pos HQ.out, HK.out, List.take_of_length_le (by rw [HN.out]; exact Nat.le_refl _)])
        go_wp2_with fail
        go_ret
        exact ⟨by rw [HF.out]; rfl, LR.out⟩
#print axioms ksince_any

end Go.Proofs.Ytgaoionnfkbhaaa
