/-
  chain's mayFollow, Good, and the reference's Good: what the calls do.
-/
import Derived.Test.YtgaoionnfkbhaaaChM
namespace Go.Proofs.Ytgaoionnfkbhaaa
open Go.RowKit

set_option maxRecDepth 100000 in
theorem mayFollow_any (v : Ver) (last : Int) (w : World) : Calls Try.prog 54 #[.agg (VC v).toArray, .int .i64 last] w fun e w' => e = .returned (.bool (fol v last)) ∧ Below w.heap.size w w' := by
  have hb : Below w.heap.size w (w.alloc (.cells (VC v).toArray 76 (0, 0))) := (Below.refl _ _).alloc (Nat.le_refl _) _
  obtain ⟨a, s, d⟩ := v
  have HB := hide hb
  clear hb
  obtain ⟨q, HQ⟩ : ∃ q, Hid (fol (a, s, d) last = q) := ⟨_, rfl⟩
  rw [HQ.out]
  simp only [VC] at *
  by_cases hl : last < a
  · cases d <;> go_enter Try.func54, Try.ntmps54 <;> go_wp2 <;> go_ret <;> (refine ⟨?_, HB.out⟩; rw [← HQ.out]; simp [fol, hl])
  · have hl' : decide (last < a) = false := by simp; omega
    go_enter Try.func54, Try.ntmps54
    go_wp2
    go_ret
    refine ⟨?_, HB.out⟩
    rw [← HQ.out]
    unfold fol
    rw [hl']
    rfl
#print axioms mayFollow_any

theorem drop_cons {L : List Ver} {i : Nat} (h : i < L.length) : L.drop i = L[i] :: L.drop (i + 1) := List.drop_eq_getElem_cons h

set_option maxHeartbeats 1000000 in
set_option maxRecDepth 100000 in
theorem good_any {w : World} {v : Value} {L : List Ver} (h : RdV w v L) : Calls Try.prog 49 #[v] w fun e w' => e = .returned (.bool (gd 0 L)) ∧ Below w.heap.size w w' := by
  have HL := hide h
  obtain ⟨a, cp, rfl⟩ := h.slice
  have hn : L.length ≤ 9223372036854775807 := Nat.le_trans h.cap h.max
  clear h
  have hz := Zver
  obtain ⟨n, HN⟩ : ∃ n, Hid (L.length = n) := ⟨_, rfl⟩
  rw [HN.out] at HL hn ⊢
  go_enter Try.func49, Try.ntmps49
  go_wp2_with fail
  go_loopg [3, 8] n (fun g y x wr => ∃ (i : Nat) (last : Int), g + i = n ∧ y = .int .i64 last ∧ x = .int .i64 (i : Int) ∧ Hid (gd last (L.drop i) = gd 0 L) ∧ Hid (Below w.heap.size w wr))
  case atStart => exact ⟨0, 0, by omega, rfl, rfl, rfl, Below.refl _ _⟩
  case round =>
    obtain ⟨i, last, hgi, rfl, rfl, HG, LR⟩ := hrel
    by_cases hlt : i < n
    · have q2 : (i : Int) < (n : Int) := by omega
      obtain ⟨b, off, rfl, hlb, hx⟩ := (HL.out.kept LR.out).nth (by omega)
      have hlt' : i < L.length := by rw [HN.out]; exact hlt
      have hr := hx i hlt'
      obtain ⟨p, HP⟩ : ∃ p, Hid (L[i] = p) := ⟨L[i], (show L[i] = L[i] from rfl)⟩
      rw [HP.out] at hr
      clear hx
      go_upto_region 5 with (first
        | (refine wpList_load_mid rfl 76 _ rfl b (off + i * 3) rfl (VC p) _ hr Try.underlying76 rfl Try.size76 ?_)
        | (refine wpList_store_new rfl 76 _ _ rfl wr _ (VC p).toArray _ rfl rfl rfl Try.size76 rfl (all_one (VC_one p)) ?_)
        | fail)
      obtain ⟨E, HE⟩ : ∃ E, Hid (wr.heap.size = E) := ⟨_, rfl⟩
      rw [HE.out]
      obtain ⟨w4, hw4⟩ : ∃ x, x = wr.alloc (.cells (VC p).toArray 76 (0, 0)) := ⟨_, rfl⟩
      rw [← hw4]
      have G4 : Hid (Below wr.heap.size wr w4) := (show Below _ _ _ by rw [hw4]; exact (Below.refl _ _).alloc (Nat.le_refl _) _)
      have L4 : Hid (Below w.heap.size w w4) := LR.out.trans (G4.out.mono LR.out.size)
      have B4 : Hid (Blk w4 E 76 (VC p)) := (show Blk _ _ _ _ by rw [hw4, ← HE.out]; exact Blk.new wr 76 (VC p))
      clear hw4 hr
      have HG2 : Hid ((fol p last && gd p.1 (L.drop (i + 1))) = gd 0 L) := (show _ = _ by rw [← HG.out, drop_cons hlt', HP.out, gd])
      have B4r := B4.out.range0
      go_wp2_with (refine wpList_load_mid rfl 76 _ rfl E 0 rfl (VC p) _ B4r Try.underlying76 rfl Try.size76 ?_)
      refine (mayFollow_any p last w4).mono ?_
      rintro e w5 ⟨rfl, hb5⟩
      have L5 : Hid (Below w.heap.size w w5) := L4.out.trans (hb5.mono L4.out.size)
      have c0 := (B4.out.kept hb5).cell (j := 0) rfl
      clear hb5 B4r B4
      obtain ⟨q, HQ⟩ : ∃ q, Hid (fol p last = q) := ⟨_, rfl⟩
      rw [HQ.out] at HG2 ⊢
      cases q with
      | false =>
        go_wp2_with fail
        go_ret
        exact ⟨by rw [← HG2.out]; rfl, L5.out⟩
      | true =>
        go_wp2_with fail
        go_roundg (gk - 1)
        case measure => omega
        case rel => exact ⟨i + 1, p.1, by omega, rfl, by go_num, (show _ = _ by rw [← HG2.out]; rfl), L5⟩
    · obtain rfl : i = n := by omega
      have q2 : ¬ (i : Int) < (i : Int) := by omega
      have HF : Hid (gd 0 L = true) := (show _ = _ by rw [← HG.out, List.drop_of_length_le (by rw [HN.out]; exact Nat.le_refl _)]; rfl)
      go_wp2_with fail
      go_ret
      exact ⟨by rw [HF.out]; rfl, LR.out⟩
#print axioms good_any

theorem fol_le {v : Ver} {last : Int} (h : v.1 ≤ last) : fol v last = false := by
  unfold fol
  rw [decide_eq_false (by omega)]
  rfl
theorem fol_gt {v : Ver} {last : Int} (h : last < v.1) : fol v last = (!v.2.2 || v.2.1.toList.isEmpty) := by
  unfold fol
  rw [decide_eq_true h]
  rfl

set_option maxHeartbeats 1000000 in
set_option maxRecDepth 100000 in
theorem kgood_any {w : World} {v : Value} {L : List Ver} (h : RdV w v L) : Calls Try.prog 53 #[v] w fun e w' => e = .returned (.bool (gd 0 L)) ∧ Below w.heap.size w w' := by
  have HL := hide h
  obtain ⟨a, cp, rfl⟩ := h.slice
  have hn : L.length ≤ 9223372036854775807 := Nat.le_trans h.cap h.max
  clear h
  have hz := Zrver
  obtain ⟨n, HN⟩ : ∃ n, Hid (L.length = n) := ⟨_, rfl⟩
  rw [HN.out] at HL hn ⊢
  go_enter Try.func53, Try.ntmps53
  go_wp2_with fail
  go_loopg [3, 8] n (fun g y x wr => ∃ (i : Nat) (last : Int), g + i = n ∧ y = .int .i64 last ∧ x = .int .i64 (i : Int) ∧ Hid (gd last (L.drop i) = gd 0 L) ∧ Hid (Below w.heap.size w wr))
  case atStart => exact ⟨0, 0, by omega, rfl, rfl, rfl, Below.refl _ _⟩
  case round =>
    obtain ⟨i, last, hgi, rfl, rfl, HG, LR⟩ := hrel
    by_cases hlt : i < n
    · have q2 : (i : Int) < (n : Int) := by omega
      obtain ⟨b, off, rfl, hlb, hx⟩ := (HL.out.kept LR.out).nth (by omega)
      have hlt' : i < L.length := by rw [HN.out]; exact hlt
      have hr := hx i hlt'
      obtain ⟨p, HP⟩ : ∃ p, Hid (L[i] = p) := ⟨L[i], (show L[i] = L[i] from rfl)⟩
      rw [HP.out] at hr
      clear hx
      go_upto_region 5 with (first
        | (refine wpList_load_mid rfl 87 _ rfl b (off + i * 3) rfl (VC p) _ hr Try.underlying87 rfl Try.size87 ?_)
        | (refine wpList_store_new rfl 87 _ _ rfl wr _ (VC p).toArray _ rfl rfl rfl Try.size87 rfl (all_one (VC_one p)) ?_)
        | fail)
      obtain ⟨E, HE⟩ : ∃ E, Hid (wr.heap.size = E) := ⟨_, rfl⟩
      rw [HE.out]
      obtain ⟨w4, hw4⟩ : ∃ x, x = wr.alloc (.cells (VC p).toArray 87 (0, 0)) := ⟨_, rfl⟩
      rw [← hw4]
      have G4 : Hid (Below wr.heap.size wr w4) := (show Below _ _ _ by rw [hw4]; exact (Below.refl _ _).alloc (Nat.le_refl _) _)
      have L4 : Hid (Below w.heap.size w w4) := LR.out.trans (G4.out.mono LR.out.size)
      have B4 : Hid (Blk w4 E 87 (VC p)) := (show Blk _ _ _ _ by rw [hw4, ← HE.out]; exact Blk.new wr 87 (VC p))
      clear hw4 hr
      have HG2 : Hid ((fol p last && gd p.1 (L.drop (i + 1))) = gd 0 L) := (show _ = _ by rw [← HG.out, drop_cons hlt', HP.out, gd])
      obtain ⟨x, s, d⟩ := p
      have c0 := B4.out.cell (j := 0) rfl
      have c1 := B4.out.cell (j := 1) rfl
      have c2 := B4.out.cell (j := 2) rfl
      simp only at c0 c1 c2
      by_cases hle : x ≤ last
      · rw [fol_le (v := (x, s, d)) hle] at HG2
        have HF : Hid (gd 0 L = false) := HG2.out.symm
        have q3 : decide (x ≤ last) = true := by simp [hle]
        go_wp2_with fail
        go_ret
        exact ⟨by rw [HF.out]; rfl, L4.out⟩
      · have q3 : decide (x ≤ last) = false := by simp; omega
        rw [fol_gt (v := (x, s, d)) (by show last < x; omega)] at HG2
        simp only at HG2
        cases d with
        | false =>
          have HF : Hid (gd x (L.drop (i + 1)) = gd 0 L) := (show _ = _ by rw [← HG2.out]; rfl)
          clear HG2
          go_wp2_with fail
          go_roundg (gk - 1)
          case measure => omega
          case rel => exact ⟨i + 1, x, by omega, rfl, by go_num, HF, L4⟩
        | true =>
          obtain ⟨q, hq⟩ : ∃ q, s.toList.isEmpty = q := ⟨_, rfl⟩
          rw [hq] at HG2
          cases q with
          | false =>
            have HF : Hid (gd 0 L = false) := HG2.out.symm
            go_wp2_with fail
            go_ret
            exact ⟨by rw [HF.out]; rfl, L4.out⟩
          | true =>
            have HF : Hid (gd x (L.drop (i + 1)) = gd 0 L) := (show _ = _ by rw [← HG2.out]; rfl)
            clear HG2
            go_wp2_with fail
            go_roundg (gk - 1)
            case measure => omega
            case rel => exact ⟨i + 1, x, by omega, rfl, by go_num, HF, L4⟩
    · obtain rfl : i = n := by omega
      have q2 : ¬ (i : Int) < (i : Int) := by omega
      have HF : Hid (gd 0 L = true) := (show _ = _ by rw [← HG.out, List.drop_of_length_le (by rw [HN.out]; exact Nat.le_refl _)]; rfl)
      go_wp2_with fail
      go_ret
      exact ⟨by rw [HF.out]; rfl, LR.out⟩
#print axioms kgood_any
end Go.Proofs.Ytgaoionnfkbhaaa
