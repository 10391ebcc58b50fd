/-
  store's mayFollow and Good; the document's: what the calls do.
-/
import Derived.Test.YtmicmbjbclkbjaaRcB
namespace Go.Proofs.Ytmicmbjbclkbjaa
open Go.RowKit
/-- May the pair stand behind one of that key? -/
def pOk (p : Pr) (last : ByteArray) : Bool := lt last p.1 && decide (p.1.size ≤ 64) && decide (p.2.1.size ≤ 256) && (!p.2.2 || p.2.1.toList.isEmpty)
def goodP : ByteArray → List Pr → Bool
  | _, [] => true
  | last, p :: l => pOk p last && goodP p.1 l
set_option maxRecDepth 100000 in
set_option maxHeartbeats 1000000 in
theorem sFollow_any (p : Pr) (last : ByteArray) (w : World) : Calls Try.prog 76 #[.agg (PC p).toArray, .string last] w fun e w' => e = .returned (.bool (pOk p last)) ∧ Below w.heap.size w w' := by
  have hb : Below w.heap.size w (w.alloc (.cells (PC p).toArray 41 (0, 0))) := (Below.refl _ _).alloc (Nat.le_refl _) _
  obtain ⟨k, v, d⟩ := p
  have HB := hide hb
  clear hb
  have hgt := sgt
  obtain ⟨q, HQ⟩ : ∃ q, Hid (pOk (k, v, d) last = q) := ⟨_, rfl⟩
  rw [HQ.out]
  obtain ⟨m, hm⟩ : ∃ m, lt last k = m := ⟨_, rfl⟩
  simp only [PC] at *
  cases m with
  | false =>
    go_enter Try.func76, Try.ntmps76
    go_wp2
    go_ret
    refine ⟨?_, HB.out⟩
    rw [← HQ.out]
    unfold pOk
    rw [hm]
    rfl
  | true =>
    by_cases h1 : k.size ≤ 64
    · have q1 : decide ((k.size : Int) ≤ 64) = true := by simp; omega
      by_cases h2 : v.size ≤ 256
      · have q2 : decide ((v.size : Int) ≤ 256) = true := by simp; omega
        cases d <;> go_enter Try.func76, Try.ntmps76 <;> go_wp2 <;> go_ret <;> (refine ⟨?_, HB.out⟩; rw [← HQ.out]; simp [pOk, hm, h1, h2])
      · have q2 : decide ((v.size : Int) ≤ 256) = false := by simp; omega
        go_enter Try.func76, Try.ntmps76
        go_wp2
        go_ret
        refine ⟨?_, HB.out⟩
        rw [← HQ.out]
        have h3 : decide (v.size ≤ 256) = false := by simpa using h2
        unfold pOk
        simp only [hm, h3, Bool.and_false, Bool.false_and]
        rfl
    · have q1 : decide ((k.size : Int) ≤ 64) = false := by simp; omega
      go_enter Try.func76, Try.ntmps76
      go_wp2
      go_ret
      refine ⟨?_, HB.out⟩
      rw [← HQ.out]
      have h3 : decide (k.size ≤ 64) = false := by simpa using h1
      unfold pOk
      simp only [hm, h3, Bool.and_false, Bool.false_and]
      rfl
set_option maxHeartbeats 1000000 in
set_option maxRecDepth 100000 in
theorem sGood_any {w : World} {v : Value} {L : List Pr} (h : RdG PE w v L) : Calls Try.prog 63 #[v] w fun e w' => e = .returned (.bool (goodP em L)) ∧ Below w.heap.size w w' := by
  have HL := hide h
  obtain ⟨a, cp, rfl⟩ := h.slice
  have hn : L.length ≤ 9223372036854775807 := Nat.le_trans h.cap h.max
  clear h
  have hz := Zpair
  obtain ⟨n, HN⟩ : ∃ n, Hid (L.length = n) := ⟨_, rfl⟩
  rw [HN.out] at HL hn ⊢
  go_enter Try.func63, Try.ntmps63
  go_wp2_with fail
  go_loopg [3, 8] n (fun g y x wr => ∃ (i : Nat) (last : ByteArray), g + i = n ∧ y = .string last ∧ x = .int .i64 (i : Int) ∧ Hid (goodP last (L.drop i) = goodP em L) ∧ Hid (Below w.heap.size w wr))
  case atStart => exact ⟨0, em, by omega, rfl, rfl, rfl, Below.refl _ _⟩
  case round =>
    obtain ⟨i, last, hgi, rfl, rfl, HG, LR⟩ := hrel
    by_cases hlt : i < n
    · have q2 : (i : Int) < (n : Int) := by omega
      obtain ⟨b, off, rfl, hlb4, hx⟩ := (HL.out.kept LR.out).nth (by omega)
      have hlt' : i < L.length := by rw [HN.out]; exact hlt
      have hr : wr.rangeAt b (off + i * 3) (PC L[i]) := hx i hlt'
      obtain ⟨p, HPp⟩ : ∃ p, Hid (L[i] = p) := ⟨L[i], (show L[i] = L[i] from rfl)⟩
      rw [HPp.out] at hr
      clear hx hlb4
      go_upto_region 5 with (first
        | (refine wpList_load_mid rfl 41 _ rfl b (off + i * 3) rfl (PC p) _ hr Try.underlying41 rfl Try.size41 ?_)
        | (refine wpList_store_new rfl 41 _ _ rfl wr _ (PC p).toArray _ rfl rfl rfl Try.size41 rfl (all_one (PC_one p)) ?_)
        | fail)
      obtain ⟨E, HE⟩ : ∃ E, Hid (wr.heap.size = E) := ⟨_, rfl⟩
      rw [HE.out]
      obtain ⟨w4, hw4⟩ : ∃ x, x = wr.alloc (.cells (PC p).toArray 41 (0, 0)) := ⟨_, rfl⟩
      rw [← hw4]
      have G4 : Hid (Below wr.heap.size wr w4) := (show Below _ _ _ by rw [hw4]; exact (Below.refl _ _).alloc (Nat.le_refl _) _)
      have L4 : Hid (Below w.heap.size w w4) := LR.out.trans (G4.out.mono LR.out.size)
      have B4 : Hid (Blk w4 E 41 (PC p)) := (show Blk _ _ _ _ by rw [hw4, ← HE.out]; exact Blk.new wr 41 (PC p))
      clear hw4 hr
      have HG2 : Hid ((pOk p last && goodP p.1 (L.drop (i + 1))) = goodP em L) := (show _ = _ by rw [← HG.out, List.drop_eq_getElem_cons hlt', HPp.out, goodP])
      have B4r := B4.out.range0
      go_wp2_with (refine wpList_load_mid rfl 41 _ rfl E 0 rfl (PC p) _ B4r Try.underlying41 rfl Try.size41 ?_)
      refine (sFollow_any p last w4).mono ?_
      rintro e w5 ⟨rfl, hb5⟩
      have L5 : Hid (Below w.heap.size w w5) := L4.out.trans (hb5.mono L4.out.size)
      have c0 := (B4.out.kept hb5).cell (j := 0) rfl
      clear hb5 B4r B4
      obtain ⟨q, HQ⟩ : ∃ q, Hid (pOk p last = q) := ⟨_, rfl⟩
      rw [HQ.out] at HG2 ⊢
      cases q with
      | false =>
        go_wp2_with fail
        go_ret
        exact ⟨by rw [← HG2.out]; rfl, L5.out⟩
      | true =>
        go_wp2_with fail
        go_roundg (gk - 1)
        case measure => omega
        case rel => exact ⟨i + 1, p.1, by omega, rfl, by go_num, (show _ = _ by rw [← HG2.out]; rfl), L5⟩
    · obtain rfl : i = n := by omega
      have q2 : ¬ (i : Int) < (i : Int) := by omega
      have HF : Hid (goodP em L = true) := (show _ = _ by rw [← HG.out, List.drop_of_length_le (by rw [HN.out]; exact Nat.le_refl _)]; rfl)
      go_wp2_with fail
      go_ret
      exact ⟨by rw [HF.out]; rfl, LR.out⟩
end Go.Proofs.Ytmicmbjbclkbjaa
