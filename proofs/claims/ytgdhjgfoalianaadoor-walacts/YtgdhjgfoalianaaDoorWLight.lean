/-
  indenturelaw06.light: what the call does.
-/
import Derived.Test.YtgdhjgfoalianaaDoorDArgs
import Derived.Test.YtgdhjgfoalianaaDoorGWb
namespace Go.Proofs.YtgdhjgfoalianaaDoor
open Go.RowKit
/-- What light lets through. -/
def Light (L : List ActP) : Prop := L.length ≤ 50 ∧ ∀ a ∈ L, (a.B.length ≤ 400 ∨ 8192 < a.B.length) ∧ a.B.length ≤ 30000 ∧ a.keep.length ≤ 100
theorem Tryd.size36 : (Tryd.prog.info? 36).map (·.size) = some 5 := by kernel_rfl
theorem Zact : ∀ W : World, (zeroValue 36).run Tryd.prog W = .ok (.agg #[.int .i64 0, .int .i64 0, .int .i64 0, .slice none 0 0, .slice none 0 0]) W := fun W => by kernel_rfl
theorem AC_one {w : World} {a : ActP} {vb vk : Value} (h : IsA w a vb vk) : ∀ u ∈ AC a vb vk, u.oneCell' = true := by
  intro u hu
  obtain ⟨a1, c1, rfl, -⟩ := h.b
  obtain ⟨a2, c2, rfl, -⟩ := h.k
  simp only [AC, List.mem_cons, List.not_mem_nil, or_false] at hu
  rcases hu with rfl | rfl | rfl | rfl | rfl <;> rfl
set_option maxHeartbeats 2000000 in
set_option maxRecDepth 100000 in
theorem light_any {w : World} {v : Value} {L : List ActP} (h : RdL w v L) : Calls Tryd.prog 9 #[v] w fun e w' => ∃ x, e = .returned (.bool x) ∧ (x = true → Light L) ∧ Below w.heap.size w w' := by
  have HL : Hid (RdL w v L) := h
  obtain ⟨a, cp, rfl, h1, h2, h3⟩ := h
  clear h3
  obtain ⟨n, HN⟩ : ∃ n, Hid (L.length = n) := ⟨_, rfl⟩
  rw [HN.out] at h1 HL ⊢
  have hz := Zact
  have hn : n ≤ 9223372036854775807 := by unfold maxLen at h2; omega
  go_enter Tryd.func9, Tryd.ntmps9
  by_cases h60 : 50 < n
  · have q1 : (50 : Int) < (n : Int) := by omega
    go_wp2
    go_ret
    exact ⟨false, rfl, fun h => (by cases h), Below.refl _ _⟩
  · have q1 : decide ((50 : Int) < (n : Int)) = false := by simp; omega
    go_wp2_with fail
    go_loopg [3, 12] n (fun g y x wr => ∃ i s : Nat, g + i = n ∧ s ≤ 400 ∧ x = .int .i64 (i : Int) ∧ y = .int .i64 (s : Int) ∧ Hid (∀ j, j < i → ∀ b, L[j]? = some b → (b.B.length ≤ 400 ∨ 8192 < b.B.length) ∧ b.B.length ≤ 30000 ∧ b.keep.length ≤ 100) ∧ Hid (Below w.heap.size w wr))
    case atStart => exact ⟨0, n, by omega, by omega, rfl, rfl, fun j hj => by omega, Below.refl _ _⟩
    case round =>
      obtain ⟨i, s, hgi, hs, rfl, rfl, HF, LR⟩ := hrel
      by_cases hlt : i < n
      · have q2 : (i : Int) < (n : Int) := by omega
        have RL := HL.out.kept LR.out
        obtain ⟨a', cp', e', _, _, h3⟩ := RL
        simp only [Value.slice.injEq] at e'
        obtain ⟨rfl, -, rfl⟩ := e'
        have hlt' : i < L.length := by rw [HN.out]; exact hlt
        obtain ⟨b, off, rfl, hlb, hx⟩ := h3 (by omega)
        obtain ⟨vb, vk, hr, hA⟩ := hx i hlt'
        obtain ⟨p, HP⟩ : ∃ p, Hid (L[i] = p) := ⟨L[i], (show L[i] = L[i] from rfl)⟩
        rw [HP.out] at hr hA
        have C1 : Hid (∀ u ∈ AC p vb vk, u.oneCell' = true) := AC_one hA
        obtain ⟨ab, cb, hvb, -⟩ := hA.b
        obtain ⟨ak, ck, hvk, -⟩ := hA.k
        subst hvb hvk
        obtain ⟨CA, HCA⟩ : ∃ CA, Hid (AC p (.slice ab p.B.length cb) (.slice ak p.keep.length ck) = CA) := ⟨_, rfl⟩
        rw [HCA.out] at hr C1
        have hcl : CA.length = 5 := by rw [← HCA.out]; rfl
        have hB := hA.b
        have hbl : p.B.length ≤ 9223372036854775807 := by obtain ⟨_, _, e, h5, h6, _⟩ := hA.b; unfold maxLen at h6; omega
        clear hA hx h3 hB
        go_upto_region 7 with (first
          | (refine wpList_load_mid rfl 36 _ rfl b (off + i * 5) rfl CA _ hr Tryd.underlying36 rfl (by rw [hcl]; exact Tryd.size36) ?_)
          | (refine wpList_store_new rfl 36 _ _ rfl wr _ _ _ rfl rfl rfl (by simpa [hcl] using Tryd.size36) (by simp [hcl]) (all_one C1.out) ?_)
          | fail)
        obtain ⟨E, HE⟩ : ∃ E, Hid (wr.heap.size = E) := ⟨_, rfl⟩
        rw [HE.out]
        obtain ⟨w4, hw4⟩ : ∃ x, x = wr.alloc (.cells CA.toArray 36 (0, 0)) := ⟨_, rfl⟩
        rw [← hw4]
        have L4 : Hid (Below w.heap.size w w4) := (show Below _ _ _ by rw [hw4]; exact LR.out.alloc LR.out.size _)
        have B4 : Blk w4 E 36 (AC p (.slice ab p.B.length cb) (.slice ak p.keep.length ck)) := by rw [hw4, ← HE.out, HCA.out]; exact Blk.new wr 36 CA
        have c3 := B4.cell (j := 3) rfl
        have c4 := B4.cell (j := 4) rfl
        clear hw4 B4 hr LR
        obtain ⟨lb, HLB⟩ : ∃ l, Hid (p.B.length = l) := ⟨_, rfl⟩
        obtain ⟨lk, HLK⟩ : ∃ l, Hid (p.keep.length = l) := ⟨_, rfl⟩
        rw [HLB.out] at c3 hbl
        rw [HLK.out] at c4
        by_cases hb : 400 < lb ∧ lb ≤ 8192
        · have q3 : decide ((400 : Int) < (lb : Int)) = true := by simp; omega
          have q4 : decide ((lb : Int) ≤ 8192) = true := by simp; omega
          go_wp2
          go_ret
          exact ⟨false, rfl, fun h => (by cases h), L4.out⟩
        · have HBB := hide hb
          by_cases hk : 100 < lk
          · have q4 : decide ((100 : Int) < (lk : Int)) = true := by simp; omega
            by_cases hb4 : 400 < lb
            · have q3 : decide ((400 : Int) < (lb : Int)) = true := by simp; omega
              have q5 : decide ((lb : Int) ≤ 8192) = false := by simp; omega
              clear hb
              go_wp2
              go_ret
              exact ⟨false, rfl, fun h => (by cases h), L4.out⟩
            · have q3 : decide ((400 : Int) < (lb : Int)) = false := by simp; omega
              clear hb
              go_wp2
              go_ret
              exact ⟨false, rfl, fun h => (by cases h), L4.out⟩
          · have q4 : decide ((100 : Int) < (lk : Int)) = false := by simp; omega
            have e1 : (s : Int) + (lb : Int) / 64 = ((s + lb / 64 : Nat) : Int) := by omega
            obtain ⟨t, HT⟩ : ∃ t, Hid (s + lb / 64 = t) := ⟨_, rfl⟩
            rw [HT.out] at e1
            have e2 : (lb : Int).tdiv 64 = (lb : Int) / 64 := Int.tdiv_eq_ediv_of_nonneg (by omega)
            by_cases ht : 400 < t
            · have q5 : decide ((400 : Int) < (t : Int)) = true := by simp; omega
              by_cases hb4 : 400 < lb
              · have q3 : decide ((400 : Int) < (lb : Int)) = true := by simp; omega
                have q6 : decide ((lb : Int) ≤ 8192) = false := by simp; omega
                clear hb
                go_wp2
                go_ret
                exact ⟨false, rfl, fun h => (by cases h), L4.out⟩
              · have q3 : decide ((400 : Int) < (lb : Int)) = false := by simp; omega
                clear hb
                go_wp2
                go_ret
                exact ⟨false, rfl, fun h => (by cases h), L4.out⟩
            · have q5 : decide ((400 : Int) < (t : Int)) = false := by simp; omega
              have hrel : ∀ j, j < i + 1 → ∀ b, L[j]? = some b → (b.B.length ≤ 400 ∨ 8192 < b.B.length) ∧ b.B.length ≤ 30000 ∧ b.keep.length ≤ 100 := fun j hj b hb' => by
                by_cases hji : j < i
                · exact HF.out j hji b hb'
                · obtain rfl : j = i := by omega
                  rw [List.getElem?_eq_getElem hlt', HP.out] at hb'
                  cases hb'
                  rw [HLB.out, HLK.out]
                  have := HT.out
                  omega
              have HREL := hide hrel
              clear hrel
              by_cases hb4 : 400 < lb
              · have q3 : decide ((400 : Int) < (lb : Int)) = true := by simp; omega
                have q6 : decide ((lb : Int) ≤ 8192) = false := by simp; omega
                clear hb
                go_wp2_with fail
                go_roundg (gk - 1)
                case measure => omega
                case rel => exact ⟨i + 1, t, by omega, by omega, by go_num, rfl, HREL, L4⟩
              · have q3 : decide ((400 : Int) < (lb : Int)) = false := by simp; omega
                clear hb
                go_wp2_with fail
                go_roundg (gk - 1)
                case measure => omega
                case rel => exact ⟨i + 1, t, by omega, by omega, by go_num, rfl, HREL, L4⟩
      · obtain rfl : i = n := by omega
        go_wp2_with fail
        go_ret
        refine ⟨true, rfl, fun _ => ⟨by rw [HN.out]; omega, fun b hb => ?_⟩, LR.out⟩
        obtain ⟨j, hj, rfl⟩ := List.getElem_of_mem hb
        exact HF.out j (by rw [← HN.out]; exact hj) _ (List.getElem?_eq_getElem hj)
end Go.Proofs.YtgdhjgfoalianaaDoor
