/-
  Acts in memory; indenturelaw08.light: what the call does.
-/
import Derived.Test.YtgaoionnfkbhaaaStL
namespace Go.Proofs.Ytgaoionnfkbhaaa
open Go.RowKit
/-- An act: its numbers, where its pairs lie and what they are, its two strings. -/
structure Ac where
  kind : Int
  n : Int
  most : Int
  ad : Option Addr
  len : Nat
  cap : Nat
  l : List Pr
  fr : ByteArray
  to_ : ByteArray
def AC (a : Ac) : List Value := [.int .i64 a.kind, .int .i64 a.n, .int .i64 a.most, .slice a.ad a.len a.cap, .string a.fr, .string a.to_]
theorem AC_one (a : Ac) : ∀ u ∈ AC a, u.oneCell' = true := by
  intro u hu
  simp only [AC, List.mem_cons, List.not_mem_nil, or_false] at hu
  rcases hu with rfl | rfl | rfl | rfl | rfl | rfl <;> rfl
def AE : Enc Ac := ⟨AC, 6, fun _ => rfl, AC_one⟩
/-- What the act's parts are. -/
structure AcOk (w : World) (a : Ac) : Prop where
  r : RdG PE w (.slice a.ad a.len a.cap) a.l
  s : ∀ p ∈ a.l, p.1.size ≤ 140737488355328 ∧ p.2.1.size ≤ 140737488355328
  f : a.fr.size ≤ 140737488355328
  t : a.to_.size ≤ 140737488355328
def AcsOk (w : World) (A : List Ac) : Prop := ∀ a ∈ A, AcOk w a
theorem AcOk.kept {w w' : World} {a : Ac} (h : AcOk w a) (hb : Below w.heap.size w w') : AcOk w' a := ⟨h.r.kept hb, h.s, h.f, h.t⟩
theorem Try.size33 : (Try.prog.info? 33).map (·.size) = some 6 := by kernel_rfl
theorem Zact8 : ∀ W : World, (zeroValue 33).run Try.prog W = .ok (.agg #[.int .i64 0, .int .i64 0, .int .i64 0, .slice none 0 0, .string ⟨#[]⟩, .string ⟨#[]⟩]) W := fun W => by kernel_rfl
def sumL (A : List Ac) : Nat := (A.map fun a => a.l.length).sum
/-- What light lets through. -/
def Light (A : List Ac) : Prop := A.length ≤ 60 ∧ A.length + sumL A ≤ 400 ∧ ∀ a ∈ A, a.l.length ≤ 60 ∧ a.fr.size ≤ 300 ∧ a.to_.size ≤ 300
theorem sumL_take {A : List Ac} {i : Nat} (h : i < A.length) : sumL (A.take (i + 1)) = sumL (A.take i) + A[i].l.length := by
  unfold sumL
  rw [List.take_succ_eq_append_getElem h, List.map_append, List.sum_append]
  simp only [List.map_cons, List.map_nil, List.sum_cons, List.sum_nil]
  omega
set_option maxHeartbeats 4000000 in
set_option maxRecDepth 100000 in
theorem light_any {w : World} {v : Value} {L : List Ac} (h : RdG AE w v L) (hok : AcsOk w L) : Calls Try.prog 9 #[v] w fun e w' => ∃ x, e = .returned (.bool x) ∧ (x = true → Light L) ∧ Below w.heap.size w w' := by
  have HL := hide h
  obtain ⟨a, cp, rfl⟩ := h.slice
  have hn : L.length ≤ 9223372036854775807 := Nat.le_trans h.cap h.max
  clear h
  have hz := Zact8
  obtain ⟨n, HN⟩ : ∃ n, Hid (L.length = n) := ⟨_, rfl⟩
  rw [HN.out] at HL hn ⊢
  have HOK := hide hok
  clear hok
  have hz2 := Zpair
  go_enter Try.func9, Try.ntmps9
  by_cases h60 : 60 < n
  · have q1 : (60 : Int) < (n : Int) := by omega
    go_wp2
    go_ret
    exact ⟨false, rfl, fun h => (by cases h), Below.refl _ _⟩
  · have q1 : decide ((60 : Int) < (n : Int)) = false := by simp; omega
    go_wp2_with fail
    go_loopg [3, 14] n (fun g y x wr => ∃ i s : Nat, g + i = n ∧ s ≤ 400 ∧ x = .int .i64 (i : Int) ∧ y = .int .i64 (s : Int) ∧ Hid (n + sumL (L.take i) ≤ s) ∧ Hid (∀ j, j < i → ∀ b, L[j]? = some b → b.l.length ≤ 60 ∧ b.fr.size ≤ 300 ∧ b.to_.size ≤ 300) ∧ Hid (Below w.heap.size w wr))
    case atStart => exact ⟨0, n, by omega, by omega, rfl, rfl, (show _ ≤ _ by simp [sumL]), fun j hj => by omega, Below.refl _ _⟩
    case round =>
      obtain ⟨i, s, hgi, hs, rfl, rfl, HSU, HF, LR⟩ := hrel
      by_cases hlt : i < n
      · have q2 : (i : Int) < (n : Int) := by omega
        obtain ⟨b, off, rfl, hlb4, hx⟩ := (HL.out.kept LR.out).nth (by omega)
        have hlt' : i < L.length := by rw [HN.out]; exact hlt
        have hr : wr.rangeAt b (off + i * 6) (AC L[i]) := hx i hlt'
        obtain ⟨p, HPp⟩ : ∃ p, Hid (L[i] = p) := ⟨L[i], (show L[i] = L[i] from rfl)⟩
        rw [HPp.out] at hr
        clear hx hlb4
        go_upto_region 7 with (first
          | (refine wpList_load_mid rfl 33 _ rfl b (off + i * 6) rfl (AC p) _ hr Try.underlying33 rfl Try.size33 ?_)
          | (refine wpList_store_new rfl 33 _ _ rfl wr _ (AC p).toArray _ rfl rfl rfl Try.size33 rfl (all_one (AC_one p)) ?_)
          | fail)
        obtain ⟨E, HE⟩ : ∃ E, Hid (wr.heap.size = E) := ⟨_, rfl⟩
        rw [HE.out]
        obtain ⟨w4, hw4⟩ : ∃ x, x = wr.alloc (.cells (AC p).toArray 33 (0, 0)) := ⟨_, rfl⟩
        rw [← hw4]
        have G4 : Hid (Below wr.heap.size wr w4) := (show Below _ _ _ by rw [hw4]; exact (Below.refl _ _).alloc (Nat.le_refl _) _)
        have L4 : Hid (Below w.heap.size w w4) := LR.out.trans (G4.out.mono LR.out.size)
        have B4 : Hid (Blk w4 E 33 (AC p)) := (show Blk _ _ _ _ by rw [hw4, ← HE.out]; exact Blk.new wr 33 (AC p))
        clear hw4 hr
        have HA := hide (HOK.out p (by rw [← HPp.out]; exact List.getElem_mem hlt'))
        obtain ⟨pk, pn, pm, ad, ln, cpa, pl, fr, tt⟩ := p
        have c3 := B4.out.cell (j := 3) rfl
        have c4 := B4.out.cell (j := 4) rfl
        have c5 := B4.out.cell (j := 5) rfl
        have HR0 := hide HA.out.r
        have HR2 := hide (HA.out.r.kept L4.out)
        have hln := HA.out.r.len
        have hf1 := HA.out.f
        have ht1 := HA.out.t
        have HSZ := hide HA.out.s
        have HPL := hide hln
        simp only at c3 c4 c5 HR0 HR2 hln hf1 ht1 HSZ HPL
        obtain ⟨fs, HFS⟩ : ∃ x, Hid (fr.size = x) := ⟨_, rfl⟩
        obtain ⟨ts, HTS⟩ : ∃ x, Hid (tt.size = x) := ⟨_, rfl⟩
        have efs : fr.size = fs := HFS.out
        have ets : tt.size = ts := HTS.out
        rw [efs] at hf1
        rw [ets] at ht1
        have hlnmax : ln ≤ 9223372036854775807 := Nat.le_trans HR2.out.cap HR2.out.max
        clear hln HA
        by_cases hl60 : 60 < ln
        · have q3 : decide ((60 : Int) < (ln : Int)) = true := by simp; omega
          go_wp2
          go_ret
          exact ⟨false, rfl, fun h => (by cases h), L4.out⟩
        · have q3 : decide ((60 : Int) < (ln : Int)) = false := by simp; omega
          by_cases hft : 300 < fs + ts
          · have q4 : decide ((300 : Int) < (fs : Int) + (ts : Int)) = true := by simp; omega
            go_wp2
            go_ret
            exact ⟨false, rfl, fun h => (by cases h), L4.out⟩
          · have q4 : decide ((300 : Int) < (fs : Int) + (ts : Int)) = false := by simp; omega
            have q5 : decide ((300 : Int) < (fs : Int)) = false := by simp; omega
            go_wp2_with fail
            go_loopg [3, 41] ln (fun g y x wt => ∃ j s2 : Nat, g + j = ln ∧ s2 ≤ 400 ∧ x = .int .i64 (j : Int) ∧ y = .int .i64 (s2 : Int) ∧ Hid (s + j ≤ s2) ∧ Hid (Below w.heap.size w wt))
            case atStart => exact ⟨0, s, by omega, hs, rfl, rfl, Nat.le_refl _, L4⟩
            case round =>
              obtain ⟨j, s2, hgj, hs2, rfl, rfl, HS2, LT⟩ := hrel
              by_cases hj : j < ln
              · have q6 : (j : Int) < (ln : Int) := by omega
                have hrd := hide (HR0.out.kept LT.out)
                obtain ⟨b2, off2, rfl, hlb5, hx⟩ := (hrd.out).nth (by omega)
                have hlt' : j < pl.length := by rw [HPL.out]; exact hj
                have hr : wr.rangeAt b2 (off2 + j * 3) (PC pl[j]) := hx j hlt'
                obtain ⟨pp, HPpp⟩ : ∃ p, Hid (pl[j] = p) := ⟨pl[j], (show pl[j] = pl[j] from rfl)⟩
                rw [HPpp.out] at hr
                clear hx hlb5
                go_upto_region 12 with (first
                  | (refine wpList_load_mid rfl 49 _ rfl b2 (off2 + j * 3) rfl (PC pp) _ hr Try.underlying49 rfl Try.size49 ?_)
                  | (refine wpList_store_new rfl 49 _ _ rfl wr _ (PC pp).toArray _ rfl rfl rfl Try.size49 rfl (all_one (PC_one pp)) ?_)
                  | fail)
                obtain ⟨E2, HE2⟩ : ∃ E, Hid (wr.heap.size = E) := ⟨_, rfl⟩
                rw [HE2.out]
                obtain ⟨w5, hw4⟩ : ∃ x, x = wr.alloc (.cells (PC pp).toArray 49 (0, 0)) := ⟨_, rfl⟩
                rw [← hw4]
                have G5 : Hid (Below wr.heap.size wr w5) := (show Below _ _ _ by rw [hw4]; exact (Below.refl _ _).alloc (Nat.le_refl _) _)
                have B5 : Hid (Blk w5 E2 49 (PC pp)) := (show Blk _ _ _ _ by rw [hw4, ← HE2.out]; exact Blk.new wr 49 (PC pp))
                clear hw4 hr
                have hsz := HSZ.out pp (by rw [← HPpp.out]; exact List.getElem_mem hlt')
                obtain ⟨ky, va, dd⟩ := pp
                have d0 := B5.out.cell (j := 0) rfl
                have d1 := B5.out.cell (j := 1) rfl
                simp only at d0 d1 hsz
                obtain ⟨ks, HKS⟩ : ∃ x, Hid (ky.size = x) := ⟨_, rfl⟩
                obtain ⟨vs, HVS⟩ : ∃ x, Hid (va.size = x) := ⟨_, rfl⟩
                have eks : ky.size = ks := HKS.out
                have evs : va.size = vs := HVS.out
                rw [eks, evs] at hsz
                have L5 : Hid (Below w.heap.size w w5) := LT.out.trans (G5.out.mono LT.out.size)
                have e2 : ((ks : Int) + (vs : Int)).tdiv 32 = ((ks : Int) + (vs : Int)) / 32 := Int.tdiv_eq_ediv_of_nonneg (by omega)
                obtain ⟨t, HT⟩ : ∃ t, Hid (s2 + (1 + (ks + vs) / 32) = t) := ⟨_, rfl⟩
                have e1 : (s2 : Int) + (1 + ((ks : Int) + (vs : Int)) / 32) = (t : Int) := by have := HT.out; omega
                by_cases ht : 400 < t
                · have q7 : decide ((400 : Int) < (t : Int)) = true := by simp; omega
                  go_wp2_with fail
                  go_ret
                  exact ⟨false, rfl, fun h => (by cases h), L5.out⟩
                · have q7 : decide ((400 : Int) < (t : Int)) = false := by simp; omega
                  have HS3 : Hid (s + (j + 1) ≤ t) := (show s + (j + 1) ≤ t by have := HT.out; have := HS2.out; omega)
                  go_wp2_with fail
                  go_roundg (gk - 1)
                  case measure => omega
                  case rel => exact ⟨j + 1, t, by omega, by omega, by go_num, rfl, HS3, L5⟩
              · obtain rfl : j = ln := by omega
                have q6 : ¬ (j : Int) < (j : Int) := by omega
                have HSU2 : Hid (n + sumL (L.take (i + 1)) ≤ s2) := (show _ ≤ _ by
                  rw [sumL_take hlt', HPp.out]
                  show n + (sumL (L.take i) + pl.length) ≤ s2
                  rw [HPL.out]
                  have := HSU.out
                  have := HS2.out
                  omega)
                have HREL : Hid (∀ j, j < i + 1 → ∀ b, L[j]? = some b → b.l.length ≤ 60 ∧ b.fr.size ≤ 300 ∧ b.to_.size ≤ 300) := (show ∀ j, _ from fun k hk b hb' => by
                  by_cases hji : k < i
                  · exact HF.out k hji b hb'
                  · obtain rfl : k = i := by omega
                    rw [List.getElem?_eq_getElem hlt', HPp.out] at hb'
                    cases hb'
                    show pl.length ≤ 60 ∧ fr.size ≤ 300 ∧ tt.size ≤ 300
                    rw [HPL.out, HFS.out, HTS.out]
                    omega)
                go_wp2_with fail
                go_roundg (n - (i + 1))
                case measure => omega
                case rel => exact ⟨i + 1, s2, by omega, hs2, by go_num, rfl, HSU2, HREL, LT⟩
      · obtain rfl : i = n := by omega
        go_wp2_with fail
        go_ret
        refine ⟨true, rfl, fun _ => ⟨by rw [HN.out]; omega, ?_, fun b hb => ?_⟩, LR.out⟩
        · have := HSU.out
          rw [List.take_of_length_le (by rw [HN.out]; exact Nat.le_refl _)] at this
          rw [HN.out]
          omega
        · obtain ⟨j, hj, rfl⟩ := List.getElem_of_mem hb
          exact HF.out j (by rw [← HN.out]; exact hj) _ (List.getElem?_eq_getElem hj)
#print axioms light_any
end Go.Proofs.Ytgaoionnfkbhaaa
