/-
  The law's light: what the call does.
-/
import Derived.Test.YtfjlkncliljjnaaBfX
import Derived.Test.YtfjlkncliljjnaaBfC
namespace Go.Proofs.Ytfjlkncliljjnaa
open Go.RowKit
theorem Try.size32 : (Try.prog.info? 32).map (·.size) = some 3 := by kernel_rfl
theorem Zact : ∀ W : World, (zeroValue 32).run Try.prog W = .ok (.agg #[.string ⟨#[]⟩, .string ⟨#[]⟩, .bool false]) W := fun W => by kernel_rfl
theorem len_run (s : ByteArray) (n : Nat) (h : s.size = n) : ∀ W, (Builtin.len_ #[9] 3 #[.string s]).run Try.prog W = .ok (.int .i64 (n : Int)) W := fun W => by rw [← h]; simp [Builtin.len_, go_sem]
set_option maxHeartbeats 4000000 in
set_option maxRecDepth 100000 in
theorem light_any {w : World} {va vl : Value} {A L : List Pr} (ha : RdG PE w va A) (hl : RdG PE w vl L) (oa : ∀ x ∈ A, PrOk x) (ol : ∀ x ∈ L, PrOk x) :
    Calls Try.prog 9 #[va, vl] w fun e w' => ∃ b, e = .returned (.bool b) ∧ Below w.heap.size w w' ∧ (b = true → A.length ≤ 150 ∧ L.length ≤ 150) := by
  have za := Zact
  have zp' := Zpair
  have HA := hide ha
  have HL := hide hl
  have OA := hide oa
  have OL := hide ol
  obtain ⟨a, c, rfl⟩ := ha.slice
  obtain ⟨a', c', rfl⟩ := hl.slice
  have hm := Nat.le_trans ha.cap ha.max
  have hm' := Nat.le_trans hl.cap hl.max
  obtain ⟨n, HN⟩ : ∃ n, Hid (A.length = n) := ⟨_, rfl⟩
  obtain ⟨n', HN'⟩ : ∃ n, Hid (L.length = n) := ⟨_, rfl⟩
  obtain ⟨N, HNw⟩ : ∃ N, Hid (w.heap.size = N) := ⟨_, rfl⟩
  rw [HN.out] at HA hm ⊢
  rw [HN'.out] at HL hm' ⊢
  rw [HNw.out]
  clear ha hl oa ol
  by_cases h1 : 150 < n
  · have q1 : decide (150 < (n : Int)) = true := by simp; omega
    go_enter Try.func9, Try.ntmps9
    go_wp2_with fail
    go_ret
    exact ⟨false, rfl, Below.refl _ _, fun h => by cases h⟩
  · have q1 : decide (150 < (n : Int)) = false := by simp; omega
    by_cases h2 : 150 < n'
    · have q2 : decide (150 < (n' : Int)) = true := by simp; omega
      go_enter Try.func9, Try.ntmps9
      go_wp2_with fail
      go_ret
      exact ⟨false, rfl, Below.refl _ _, fun h => by cases h⟩
    · have q2 : decide (150 < (n' : Int)) = false := by simp; omega
      go_enter Try.func9, Try.ntmps9
      go_wp2_with fail
      have L0 : Hid (Below N w w) := (show _ from Below.refl _ _)
      go_loopg [5, 25] (n + 1) (fun g x z wr => ∃ (i m : Nat), i ≤ n ∧ g + i = n + 1 ∧ x = .int .i64 (m : Int) ∧ z = .int .i64 (i : Int) ∧ m ≤ 500 ∧ Hid (Below N w wr))
      case atStart => exact ⟨0, n + n', Nat.zero_le _, by omega, by simp, rfl, by omega, L0⟩
      case round =>
        obtain ⟨i, m, hi, hg, rfl, rfl, hm5, BL⟩ := hrel
        by_cases hlt : i < n
        · have hlt' : (i : Int) < (n : Int) := by omega
          have hlt2 : i < A.length := by rw [HN.out]; exact hlt
          have bw : Below w.heap.size w wr := BL.out.mono (Nat.le_of_eq HNw.out)
          obtain ⟨bb, off, rfl, hb1, hx⟩ := (HA.out.kept bw).nth (by omega)
          have hrow : wr.rangeAt bb (off + i * 3) (PC A[i]) := hx i hlt2
          have hok := OA.out A[i] (List.getElem_mem hlt2)
          obtain ⟨p, HP⟩ : ∃ p, Hid (A[i] = p) := ⟨A[i], (show A[i] = A[i] from rfl)⟩
          rw [HP.out] at hrow hok
          obtain ⟨ks, HKS⟩ : ∃ k, Hid (p.1.size = k) := ⟨_, rfl⟩
          obtain ⟨vs, HVS⟩ : ∃ k, Hid (p.2.1.size = k) := ⟨_, rfl⟩
          obtain ⟨hk1, hk2⟩ := hok
          rw [HKS.out] at hk1
          rw [HVS.out] at hk2
          have r1 := len_run p.1 ks HKS.out
          have r2 := len_run p.2.1 vs HVS.out
          obtain ⟨w3, hw3⟩ : ∃ y, y = wr.alloc (.cells (PC p).toArray 32 (0, 0)) := ⟨_, rfl⟩
          obtain ⟨E, HE⟩ : ∃ E, Hid (wr.heap.size = E) := ⟨_, rfl⟩
          have B3 : Blk w3 E 32 (PC p) := by rw [hw3, ← HE.out]; exact Blk.new wr 32 (PC p)
          have hb3 : Below wr.heap.size wr w3 := by rw [hw3]; exact (Below.refl _ _).alloc (Nat.le_refl _) _
          have c0 := B3.key
          have c1 := B3.val
          have L3 : Hid (Below N w w3) := (show _ from BL.out.trans (hb3.mono (by have := BL.out.size; have := HNw.out; omega)))
          have HW3 := hide hw3
          clear hx B3 hb3 hw3 bw
          obtain ⟨m', HM⟩ : ∃ m' : Nat, Hid (m + (ks + vs) / 64 = m') := ⟨_, rfl⟩
          by_cases h5 : 500 < m'
          · have q5 : decide (500 < (m : Int) + ((ks : Int) + (vs : Int)) / 64) = true := by simp; have := HM.out; omega
            go_wp2_with (first
              | (refine wpList_load_mid rfl 32 _ rfl bb (off + i * 3) rfl (PC p) _ hrow Try.underlying32 rfl Try.size32 ?_)
              | (refine wpList_store_new rfl 32 _ _ rfl wr _ (PC p).toArray _ rfl rfl rfl Try.size32 rfl (all_one (PC_one p)) ?_; rw [← HW3.out, HE.out])
              | fail)
            go_ret
            first | exact ⟨false, rfl, L3.out, fun h => by cases h⟩ | exact Or.inl ⟨rfl, L3.out⟩
          · have q5 : decide (500 < (m : Int) + ((ks : Int) + (vs : Int)) / 64) = false := by simp; have := HM.out; omega
            go_wp2_with (first
              | (refine wpList_load_mid rfl 32 _ rfl bb (off + i * 3) rfl (PC p) _ hrow Try.underlying32 rfl Try.size32 ?_)
              | (refine wpList_store_new rfl 32 _ _ rfl wr _ (PC p).toArray _ rfl rfl rfl Try.size32 rfl (all_one (PC_one p)) ?_; rw [← HW3.out, HE.out])
              | fail)
            go_roundg (n - i)
            case measure => omega
            case rel => exact ⟨i + 1, m', by omega, by omega, by rw [← HM.out]; push_cast; rfl, by go_num, by omega, L3⟩
        · obtain rfl : i = n := by omega
          have hlt' : ¬ (i : Int) < (i : Int) := by omega
          go_wp2_with fail
          have BL1 := BL
          clear BL hlt' hlt hg
          go_loopg [5, 44] (n' + 1) (fun g x z wr => ∃ (i m : Nat), i ≤ n' ∧ g + i = n' + 1 ∧ x = .int .i64 (m : Int) ∧ z = .int .i64 (i : Int) ∧ m ≤ 500 ∧ Hid (Below N w wr))
          case atStart => exact ⟨0, m, Nat.zero_le _, by omega, rfl, rfl, hm5, BL1⟩
          case round =>
            obtain ⟨i, m, hi, hg, rfl, rfl, hm5, BL⟩ := hrel
            by_cases hlt : i < n'
            · have hlt' : (i : Int) < (n' : Int) := by omega
              have hlt2 : i < L.length := by rw [HN'.out]; exact hlt
              have bw : Below w.heap.size w wr := BL.out.mono (Nat.le_of_eq HNw.out)
              obtain ⟨bb, off, rfl, hb1, hx⟩ := (HL.out.kept bw).nth (by omega)
              have hrow : wr.rangeAt bb (off + i * 3) (PC L[i]) := hx i hlt2
              have hok := OL.out L[i] (List.getElem_mem hlt2)
              obtain ⟨p, HP⟩ : ∃ p, Hid (L[i] = p) := ⟨L[i], (show L[i] = L[i] from rfl)⟩
              rw [HP.out] at hrow hok
              obtain ⟨ks, HKS⟩ : ∃ k, Hid (p.1.size = k) := ⟨_, rfl⟩
              obtain ⟨vs, HVS⟩ : ∃ k, Hid (p.2.1.size = k) := ⟨_, rfl⟩
              obtain ⟨hk1, hk2⟩ := hok
              rw [HKS.out] at hk1
              rw [HVS.out] at hk2
              have r1 := len_run p.1 ks HKS.out
              have r2 := len_run p.2.1 vs HVS.out
              obtain ⟨w3, hw3⟩ : ∃ y, y = wr.alloc (.cells (PC p).toArray 38 (0, 0)) := ⟨_, rfl⟩
              obtain ⟨E, HE⟩ : ∃ E, Hid (wr.heap.size = E) := ⟨_, rfl⟩
              have B3 : Blk w3 E 38 (PC p) := by rw [hw3, ← HE.out]; exact Blk.new wr 38 (PC p)
              have hb3 : Below wr.heap.size wr w3 := by rw [hw3]; exact (Below.refl _ _).alloc (Nat.le_refl _) _
              have c0 := B3.key
              have c1 := B3.val
              have L3 : Hid (Below N w w3) := (show _ from BL.out.trans (hb3.mono (by have := BL.out.size; have := HNw.out; omega)))
              have HW3 := hide hw3
              clear hx B3 hb3 hw3 bw
              obtain ⟨m', HM⟩ : ∃ m' : Nat, Hid (m + (ks + vs) / 64 = m') := ⟨_, rfl⟩
              by_cases h5 : 500 < m'
              · have q5 : decide (500 < (m : Int) + ((ks : Int) + (vs : Int)) / 64) = true := by simp; have := HM.out; omega
                go_wp2_with (first
                  | (refine wpList_load_mid rfl 38 _ rfl bb (off + i * 3) rfl (PC p) _ hrow Try.underlying38 rfl Try.size38 ?_)
                  | (refine wpList_store_new rfl 38 _ _ rfl wr _ (PC p).toArray _ rfl rfl rfl Try.size38 rfl (all_one (PC_one p)) ?_; rw [← HW3.out, HE.out])
                  | fail)
                go_ret
                first | exact ⟨false, rfl, L3.out, fun h => by cases h⟩ | exact Or.inl ⟨rfl, L3.out⟩
              · have q5 : decide (500 < (m : Int) + ((ks : Int) + (vs : Int)) / 64) = false := by simp; have := HM.out; omega
                go_wp2_with (first
                  | (refine wpList_load_mid rfl 38 _ rfl bb (off + i * 3) rfl (PC p) _ hrow Try.underlying38 rfl Try.size38 ?_)
                  | (refine wpList_store_new rfl 38 _ _ rfl wr _ (PC p).toArray _ rfl rfl rfl Try.size38 rfl (all_one (PC_one p)) ?_; rw [← HW3.out, HE.out])
                  | fail)
                go_roundg (n' - i)
                case measure => omega
                case rel => exact ⟨i + 1, m', by omega, by omega, by rw [← HM.out]; push_cast; rfl, by go_num, by omega, L3⟩
            · obtain rfl : i = n' := by omega
              have hlt' : ¬ (i : Int) < (i : Int) := by omega
              go_wp2_with fail
              go_ret
              first | exact ⟨true, rfl, BL.out, fun _ => ⟨by omega, by omega⟩⟩ | exact Or.inr ⟨rfl, BL.out, by omega, by omega⟩ | exact Or.inr ⟨rfl, BL.out, fun _ => ⟨by omega, by omega⟩⟩ | exact Or.inr ⟨rfl, BL.out⟩
#print axioms light_any
end Go.Proofs.Ytfjlkncliljjnaa
