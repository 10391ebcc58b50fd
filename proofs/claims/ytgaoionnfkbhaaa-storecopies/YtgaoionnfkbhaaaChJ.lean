/-
  The reference's Trim: what the call does.
-/
import Derived.Test.YtgaoionnfkbhaaaChI
namespace Go.Proofs.Ytgaoionnfkbhaaa
open Go.RowKit

/-- Where what is left begins. -/
def fstP (L : List Ver) (n : Int) : Nat := match (upto n L).getLast? with
  | none => 0
  | some v => if v.2.2 = true then (upto n L).length else (upto n L).length - 1
theorem trimP_drop {L : List Ver} {n : Int} (h : gd 0 L = true) : trimP L n = L.drop (fstP L n) := by
  cases e : (upto n L).getLast? with
  | none =>
    have hu : upto n L = [] := List.getLast?_eq_none_iff.1 e
    rw [trimP_none h (by rw [hu]; rfl)]
    unfold fstP
    rw [e]
  | some v =>
    unfold fstP
    rw [e]
    cases hd : v.2.2 with
    | true => rw [trimP_dead h e hd]; simp [hd]
    | false => rw [trimP_live h e hd]; simp [hd]
theorem fst_le (L : List Ver) (n : Int) : fstP L n ≤ (upto n L).length ∧ (upto n L).length ≤ fstP L n + 1 := by
  unfold fstP
  cases e : (upto n L).getLast? with
  | none =>
    have hu : upto n L = [] := List.getLast?_eq_none_iff.1 e
    rw [hu]
    simp
  | some v =>
    simp only
    split <;> omega
/-- Is one of those behind place i at most n? -/
theorem later_at {L : List Ver} (hr : Rise L) (n : Int) (i : Nat) : ((L.drop (i + 1)).any fun v => decide (v.1 ≤ n)) = decide (i + 1 < (upto n L).length) := by
  have hul := upto_le n L
  rw [Bool.eq_iff_iff, List.any_eq_true, decide_eq_true_eq]
  constructor
  · rintro ⟨v, hv, hle⟩
    simp only [decide_eq_true_eq] at hle
    obtain ⟨j, hj, rfl⟩ := List.getElem_of_mem hv
    rw [List.length_drop] at hj
    rw [List.getElem_drop] at hle
    have := upto_at (n := n) hr (i := i + 1 + j) (by omega)
    rw [decide_eq_decide] at this
    omega
  · intro h
    have := upto_at (n := n) hr (i := i + 1) (by omega)
    rw [decide_eq_decide] at this
    refine ⟨L[i + 1]'(by omega), ?_, ?_⟩
    · rw [drop_cons (by omega : i + 1 < L.length)]
      exact List.mem_cons_self
    · simp only [decide_eq_true_eq]
      omega
theorem take_drop_snoc {L : List Ver} {i : Nat} (f : Nat) (h : i < L.length) : (L.take (i + 1)).drop f = (L.take i).drop f ++ if f ≤ i then [L[i]] else [] := by
  rw [take_snoc h, List.drop_append, List.length_take, Nat.min_eq_left (by omega)]
  congr 1
  by_cases hf : f ≤ i
  · rw [if_pos hf, show f - i = 0 by omega]
    rfl
  · rw [if_neg hf, List.drop_of_length_le (by simp; omega)]
/-- The one that is left first: is it dead, and at most n? -/
theorem first_at {L : List Ver} (h : gd 0 L = true) {n : Int} {i : Nat} (hi : i < L.length) (hl : (upto n L).length ≤ i + 1) : (((L.take i).drop (fstP L n)).isEmpty && (L[i].2.2 && decide (L[i].1 ≤ n))) = decide (i < fstP L n) := by
  have hr := (gd_rise h).1
  have ha := upto_at (n := n) hr hi
  rw [decide_eq_decide] at ha
  obtain ⟨hf1, hf2⟩ := fst_le L n
  by_cases hu : (upto n L).length ≤ i
  · have e : decide (L[i].1 ≤ n) = false := by simp; omega
    rw [e]
    simp
    omega
  · have e : (upto n L).length = i + 1 := by omega
    have hlast := upto_last' (n := n) hr (by omega)
    rw [e, Nat.add_sub_cancel, List.getElem?_eq_getElem hi] at hlast
    have e1 : decide (L[i].1 ≤ n) = true := by simp; omega
    have e2 : (L.take i).drop (fstP L n) = [] := List.drop_of_length_le (by rw [List.length_take]; omega)
    rw [e1, e2]
    unfold fstP
    rw [hlast, e]
    cases hd : L[i].2.2 <;> simp [hd]

set_option maxHeartbeats 4000000 in
set_option maxRecDepth 100000 in
theorem ktrim_any {w : World} {v : Value} {L : List Ver} (h : RdV w v L) (hl : L.length ≤ 4398046511104) (snap : Int) :
    Calls Try.prog 46 #[v, .int .i64 snap] w fun e w' => ∃ v', e = .returned v' ∧ OwnV w' w.heap.size 87 v' (trimP L snap) ∧ Below w.heap.size w w' := by
  obtain ⟨i0, hi0, hz0, hz1, hz2⟩ := info_parts Try.info87
  have hcap : ∀ a n cp, v = .slice a n cp → n ≤ cp := fun a n cp e => by subst e; exact h.cap
  have HL := hide h
  obtain ⟨a, cp, rfl⟩ := h.slice
  have hn : L.length ≤ 9223372036854775807 := Nat.le_trans h.cap h.max
  clear h
  have hz := Zrver
  obtain ⟨n, HN⟩ : ∃ n, Hid (L.length = n) := ⟨_, rfl⟩
  rw [HN.out] at HL hn hl ⊢
  have hcp : n ≤ cp := by have := hcap a L.length cp rfl; rw [HN.out] at this; exact this
  clear hcap
  go_enter Try.func46, Try.ntmps46
  go_wp2_with fail
  refine (kgood_any HL.out).mono ?_
  rintro e w5 ⟨rfl, hb5⟩
  have L5 := hide hb5
  clear hb5
  obtain ⟨q, HQ⟩ : ∃ q, Hid (gd 0 L = q) := ⟨_, rfl⟩
  rw [HQ.out]
  cases q with
  | false =>
    have HF : Hid (trimP L snap = []) := (show _ = _ by unfold trimP; rw [HQ.out]; rfl)
    go_wp2_with fail
    go_ret
    exact ⟨_, rfl, by rw [HF.out]; exact ownV_nil _ _ _, L5.out⟩
  | true =>
    obtain ⟨f, HF⟩ : ∃ f, Hid (fstP L snap = f) := ⟨_, rfl⟩
    go_wp2_with fail
    go_loopg [5, 16] n (fun g y x wr => ∃ (i : Nat), g + i = n ∧ x = .int .i64 (i : Int) ∧ Hid (OwnV wr w.heap.size 87 y ((L.take i).drop f)) ∧ Hid (Below w.heap.size w wr))
    case atStart => exact ⟨0, by omega, rfl, (show OwnV _ _ _ _ _ by simp; exact ownV_nil _ _ _), L5⟩
    case round =>
      obtain ⟨i, hgi, rfl, HO, LR⟩ := hrel
      obtain ⟨gk0, Hgk⟩ : ∃ g, Hid (g = gk) := ⟨_, rfl⟩
      by_cases hlt : i < n
      · have q2 : (i : Int) < (n : Int) := by omega
        obtain ⟨b, off, rfl, hlb, hx⟩ := (HL.out.kept LR.out).nth (by omega)
        have hlt' : i < L.length := by rw [HN.out]; exact hlt
        have hr := hx i hlt'
        obtain ⟨p, HP⟩ : ∃ p, Hid (L[i] = p) := ⟨L[i], (show L[i] = L[i] from rfl)⟩
        rw [HP.out] at hr
        clear hx
        go_upto_region 7 with (first
          | (refine wpList_load_mid rfl 87 _ rfl b (off + i * 3) rfl (VC p) _ hr Try.underlying87 rfl Try.size87 ?_)
          | (refine wpList_store_new rfl 87 _ _ rfl wr _ (VC p).toArray _ rfl rfl rfl Try.size87 rfl (all_one (VC_one p)) ?_)
          | fail)
        obtain ⟨E, HE⟩ : ∃ E, Hid (wr.heap.size = E) := ⟨_, rfl⟩
        rw [HE.out]
        obtain ⟨w4, hw4⟩ : ∃ x, x = wr.alloc (.cells (VC p).toArray 87 (0, 0)) := ⟨_, rfl⟩
        rw [← hw4]
        have G4 : Hid (Below wr.heap.size wr w4) := (show Below _ _ _ by rw [hw4]; exact (Below.refl _ _).alloc (Nat.le_refl _) _)
        have L4 : Hid (Below w.heap.size w w4) := LR.out.trans (G4.out.mono LR.out.size)
        have B4 : Hid (Blk w4 E 87 (VC p)) := (show Blk _ _ _ _ by rw [hw4, ← HE.out]; exact Blk.new wr 87 (VC p))
        clear hw4 hr
        have O4 := hide (HO.out.kept G4.out)
        obtain ⟨a', hsl, hrd⟩ := slice_vers Try.underlying67 Try.size87 (some ⟨b, off, none⟩) n cp (i + 1) (by omega) hcp
        rw [show ((i + 1 : Nat) : Int) = (i : Int) + 1 by omega] at hsl
        have RD := hide (hrd w L HL.out)
        obtain ⟨k, HK⟩ : ∃ k, Hid (n - (i + 1) = k) := ⟨_, rfl⟩
        obtain ⟨c2, HC2⟩ : ∃ c, Hid (cp - (i + 1) = c) := ⟨_, rfl⟩
        obtain ⟨M, HM⟩ : ∃ M, Hid (L.drop (i + 1) = M) := ⟨_, rfl⟩
        rw [HK.out, HC2.out] at hsl
        rw [HK.out, HC2.out, HM.out] at RD
        have HMk : Hid (M.length = k) := RD.out.len
        have hk9 : k ≤ 9223372036854775807 := by have := HK.out; omega
        clear hrd
        rw [← Hgk.out] at hgi
        go_wp2_with fail
        go_loopg [8, 26] k (fun g y x wr => ∃ (j : Nat), g + j = k ∧ x = .int .i64 (j : Int) ∧ y = .bool ((M.take j).any fun v => decide (v.1 ≤ snap)) ∧ Hid (Below w.heap.size w wr) ∧ Hid (Below w4.heap.size w4 wr))
        case atStart => exact ⟨0, by omega, rfl, rfl, L4, Below.refl _ _⟩
        case round =>
          obtain ⟨j, hgj, rfl, rfl, LR2, LW⟩ := hrel
          by_cases hltj : j < k
          · have q3 : (j : Int) < (k : Int) := by omega
            obtain ⟨b, off, rfl, hlb, hx⟩ := (RD.out.kept LR2.out).nth (by omega)
            have hlt' : j < M.length := by rw [HMk.out]; exact hltj
            have hr := hx j hlt'
            obtain ⟨p2, HP⟩ : ∃ p, Hid (M[j] = p) := ⟨M[j], (show M[j] = M[j] from rfl)⟩
            rw [HP.out] at hr
            clear hx
            go_upto_region 11 with (first
              | (refine wpList_load_mid rfl 87 _ rfl b (off + j * 3) rfl (VC p2) _ hr Try.underlying87 rfl Try.size87 ?_)
              | (refine wpList_store_new rfl 87 _ _ rfl wr _ (VC p2).toArray _ rfl rfl rfl Try.size87 rfl (all_one (VC_one p2)) ?_)
              | fail)
            obtain ⟨E2, HE⟩ : ∃ E, Hid (wr.heap.size = E) := ⟨_, rfl⟩
            rw [HE.out]
            obtain ⟨w6, hw4⟩ : ∃ x, x = wr.alloc (.cells (VC p2).toArray 87 (0, 0)) := ⟨_, rfl⟩
            rw [← hw4]
            have G4 : Hid (Below wr.heap.size wr w6) := (show Below _ _ _ by rw [hw4]; exact (Below.refl _ _).alloc (Nat.le_refl _) _)
            have L4 : Hid (Below w.heap.size w w6) := LR2.out.trans (G4.out.mono LR2.out.size)
            have B4 : Hid (Blk w6 E2 87 (VC p2)) := (show Blk _ _ _ _ by rw [hw4, ← HE.out]; exact Blk.new wr 87 (VC p2))
            clear hw4 hr
            have c0 := B4.out.cell (j := 0) rfl
            have LW6 : Hid (Below w4.heap.size w4 w6) := LW.out.trans (G4.out.mono LW.out.size)
            have HS : Hid (((M.take (j + 1)).any fun v => decide (v.1 ≤ snap)) = (((M.take j).any fun v => decide (v.1 ≤ snap)) || decide (p2.1 ≤ snap))) := (show _ = _ by
              rw [take_snoc hlt', List.any_append, HP.out]
              simp)
            obtain ⟨r, HR⟩ : ∃ r, Hid (((M.take j).any fun v => decide (v.1 ≤ snap)) = r) := ⟨_, rfl⟩
            rw [HR.out] at HS ⊢
            cases r with
            | true =>
              go_wp2_with fail
              go_roundg (gk - 1)
              case measure => omega
              case rel => exact ⟨j + 1, by omega, by go_num, (by rw [HS.out]; rfl), L4, LW6⟩
            | false =>
              obtain ⟨x, s, d⟩ := p2
              simp only at c0 HS
              rw [Bool.false_or] at HS
              obtain ⟨r2, hr2⟩ : ∃ r, decide (x ≤ snap) = r := ⟨_, rfl⟩
              rw [hr2] at HS
              cases r2 with
              | true =>
                go_wp2_with fail
                go_roundg (gk - 1)
                case measure => omega
                case rel => exact ⟨j + 1, by omega, by go_num, (by rw [HS.out]), L4, LW6⟩
              | false =>
                go_wp2_with fail
                go_roundg (gk - 1)
                case measure => omega
                case rel => exact ⟨j + 1, by omega, by go_num, (by rw [HS.out]), L4, LW6⟩
          · obtain rfl : j = k := by omega
            have q3 : ¬ (j : Int) < (j : Int) := by omega
            have hr := (gd_rise HQ.out).1
            have hany : ((M.take j).any fun v => decide (v.1 ≤ snap)) = decide (i + 1 < (upto snap L).length) := by
              rw [List.take_of_length_le (by rw [HMk.out]; exact Nat.le_refl _), ← HM.out]
              exact later_at hr snap i
            rw [hany]
            have hf := fst_le L snap
            rw [HF.out] at hf
            have HSn : Hid ((L.take (i + 1)).drop f = (L.take i).drop f ++ if f ≤ i then [p] else []) := (show _ = _ by rw [take_drop_snoc f hlt', HP.out])
            have O6 := hide (O4.out.kept LW.out)
            have B6 := hide (B4.out.kept LW.out)
            have R6 := B6.out.range0
            have c0 := B6.out.cell (j := 0) rfl
            have c2' := B6.out.cell (j := 2) rfl
            by_cases hlate : i + 1 < (upto snap L).length
            · have q4 : decide (i + 1 < (upto snap L).length) = true := by simp [hlate]
              rw [q4]
              rw [if_neg (by omega), List.append_nil] at HSn
              clear hany hr R6 c0 c2'
              go_wp2_with fail
              go_roundg (gk0 - 1)
              case measure => have := Hgk.out; omega
              case rel => exact ⟨i + 1, by omega, by go_num, (show OwnV _ _ _ _ _ by rw [HSn.out]; exact O6.out), LR2⟩
            · have q4 : decide (i + 1 < (upto snap L).length) = false := by simp; omega
              rw [q4]
              have hfa := first_at HQ.out (n := snap) hlt' (by omega)
              rw [HF.out, HP.out] at hfa
              have HLn : Hid (((L.take i).drop f).length ≤ i) := (show _ ≤ _ by rw [List.length_drop, List.length_take]; omega)
              have HLn2 : Hid (((L.take i).drop f).length + [p].length ≤ 4398046511104) := (show _ ≤ _ by have := HLn.out; simp only [List.length_cons, List.length_nil]; omega)
              have a7 : Below wr.heap.size wr (wr.alloc (.cells (VC p).toArray 87 (0, 0))) := (Below.refl _ _).alloc (Nat.le_refl _) _
              have O7 := hide (O6.out.kept a7)
              have L7 : Hid (Below w.heap.size w (wr.alloc (.cells (VC p).toArray 87 (0, 0)))) := LR2.out.trans (a7.mono LR2.out.size)
              obtain ⟨ya, yc, hy⟩ := O6.out.rd.slice
              obtain ⟨K, HKK⟩ : ∃ K, Hid ((L.take i).drop f = K) := ⟨_, rfl⟩
              rw [HKK.out] at HSn O6 O7 HLn2 hfa hy
              subst hy
              clear a7 hany hr O4 B4
              cases K with
              | cons m K' =>
                have hfi : f ≤ i := by
                  simp at hfa
                  exact hfa
                rw [if_pos hfi] at HSn
                obtain ⟨kl, Hkl⟩ : ∃ kl, Hid ((m :: K').length = kl) := ⟨_, rfl⟩
                have hk0 : ((kl : Int) == 0) = false := by have := Hkl.out; simp at this; simp; omega
                rw [Hkl.out] at O6 O7 ⊢
                clear hfa hfi
                go_wp2_with (first
                  | (refine wpList_load_mid rfl 87 _ rfl E 0 rfl (VC p) _ R6 Try.underlying87 rfl Try.size87 ?_)
                  | (refine wpList_build1 rfl _ rfl p rfl ?_)
                  | (at_builtin; refine wpList_append_vers _ rfl _ _ 67 67 rfl w.heap.size 87 i0 Try.underlying67 hi0 hz0 hz1 hz2 _ _ rfl O7.out _ [p] rfl (src_one Try.prog wr p 87 67 87 Try.underlying67) HLn2.out L7.out.size ?_; intro v8 w8 o8 b8; have O8 := hide o8; have B8 := hide b8; clear o8 b8)
                  | fail)
                go_roundg (gk0 - 1)
                case measure => have := Hgk.out; omega
                case rel => exact ⟨i + 1, by omega, by go_num, (show OwnV _ _ _ _ _ by rw [HSn.out]; exact O8.out), L7.out.trans B8.out⟩
              | nil =>
                obtain ⟨x, s, d⟩ := p
                simp only [List.isEmpty_nil, Bool.true_and] at c0 c2' hfa
                cases d with
                | false =>
                  have hfi : f ≤ i := by simp at hfa; exact hfa
                  rw [if_pos hfi] at HSn
                  clear hfa hfi
                  go_wp2_with (first
                    | (refine wpList_load_mid rfl 87 _ rfl E 0 rfl (VC (x, s, false)) _ R6 Try.underlying87 rfl Try.size87 ?_)
                    | (refine wpList_build1 rfl _ rfl (x, s, false) rfl ?_)
                    | (at_builtin; refine wpList_append_vers _ rfl _ _ 67 67 rfl w.heap.size 87 i0 Try.underlying67 hi0 hz0 hz1 hz2 _ _ rfl O7.out _ [(x, s, false)] rfl (src_one Try.prog wr (x, s, false) 87 67 87 Try.underlying67) HLn2.out L7.out.size ?_; intro v8 w8 o8 b8; have O8 := hide o8; have B8 := hide b8; clear o8 b8)
                    | fail)
                  go_roundg (gk0 - 1)
                  case measure => have := Hgk.out; omega
                  case rel => exact ⟨i + 1, by omega, by go_num, (show OwnV _ _ _ _ _ by rw [HSn.out]; exact O8.out), L7.out.trans B8.out⟩
                | true =>
                  obtain ⟨r2, hr2⟩ : ∃ r, decide (x ≤ snap) = r := ⟨_, rfl⟩
                  rw [hr2] at hfa
                  cases r2 with
                  | false =>
                    have hfi : f ≤ i := by simp at hfa; exact hfa
                    rw [if_pos hfi] at HSn
                    clear hfa hfi
                    go_wp2_with (first
                      | (refine wpList_load_mid rfl 87 _ rfl E 0 rfl (VC (x, s, true)) _ R6 Try.underlying87 rfl Try.size87 ?_)
                      | (refine wpList_build1 rfl _ rfl (x, s, true) rfl ?_)
                      | (at_builtin; refine wpList_append_vers _ rfl _ _ 67 67 rfl w.heap.size 87 i0 Try.underlying67 hi0 hz0 hz1 hz2 _ _ rfl O7.out _ [(x, s, true)] rfl (src_one Try.prog wr (x, s, true) 87 67 87 Try.underlying67) HLn2.out L7.out.size ?_; intro v8 w8 o8 b8; have O8 := hide o8; have B8 := hide b8; clear o8 b8)
                      | fail)
                    go_roundg (gk0 - 1)
                    case measure => have := Hgk.out; omega
                    case rel => exact ⟨i + 1, by omega, by go_num, (show OwnV _ _ _ _ _ by rw [HSn.out]; exact O8.out), L7.out.trans B8.out⟩
                  | true =>
                    have hfi : ¬ f ≤ i := by simp at hfa; omega
                    rw [if_neg hfi, List.append_nil] at HSn
                    clear hfa hfi R6
                    go_wp2_with fail
                    go_roundg (gk0 - 1)
                    case measure => have := Hgk.out; omega
                    case rel => exact ⟨i + 1, by omega, by go_num, (show OwnV _ _ _ _ _ by rw [HSn.out]; exact O6.out), LR2⟩
      · obtain rfl : i = n := by omega
        have q2 : ¬ (i : Int) < (i : Int) := by omega
        have HT : Hid (trimP L snap = (L.take i).drop f) := (show _ = _ by
          rw [trimP_drop HQ.out, HF.out, List.take_of_length_le (by rw [HN.out]; exact Nat.le_refl _)])
        go_wp2_with fail
        go_ret
        exact ⟨_, rfl, by rw [HT.out]; exact HO.out, LR.out⟩
#print axioms ktrim_any
end Go.Proofs.Ytgaoionnfkbhaaa
