/-
  certify's isAhead, sort.Search over it, have: what the calls do.
-/
import Derived.Test.YthniaoacanabdaaCtA
namespace Go.Proofs.Ythniaoacanabdaa
open Go.RowKit
theorem cell_box (w : World) (v : Value) (t : TypeId) : (w.alloc (.cells #[v] t (0, 0))).cell? ⟨w.heap.size, 0, none⟩ = some v := by
  rw [World.cell?_alloc_at _ _ _ _ (by simp)]; rfl
set_option maxRecDepth 100000 in
theorem isAhead_any {w : World} {a : Option Addr} {n cap : Nat} {M : List Sp} (h : RdG SE w (.slice a n cap) M) (k : ByteArray) (i : Nat) (hi : i < M.length) :
    Calls Try.prog 44 #[.agg #[.string k, .slice a n cap], .int .i64 (i : Int)] w fun e w' => e = .returned (.bool (lt k M[i].1)) ∧ Below w.heap.size w w' := by
  have hln := h.len
  obtain ⟨N, HN⟩ : ∃ N, Hid (w.heap.size = N) := ⟨_, rfl⟩
  obtain ⟨w1, hw1⟩ : ∃ y, y = w.alloc (.cells ([.string k, .slice a n cap] : List Value).toArray 75 (0, 0)) := ⟨_, rfl⟩
  obtain ⟨b1, l1⟩ := newB HN hw1
  have h1 := h.kept l1.out
  obtain ⟨b, off, rfl, hlb, hx⟩ := h1.nth (by omega)
  have c0 : w1.cell? ⟨b, off + i * 2, none⟩ = some (.string M[i].1) := hx i hi 0 _ rfl
  have hin : (i : Int) < (n : Int) := by omega
  have d0 := b1.out.cell (j := 0) (v := .string k) rfl
  have d1 := b1.out.cell (j := 1) (v := .slice (some ⟨b, off, none⟩) n cap) rfl
  generalize M[i].1 = y at c0 ⊢
  have HW := hide hw1
  clear hx hln h h1 hw1
  go_enter Try.func44, Try.ntmps44
  go_upto_region 1 with fail
  change Code.wp _ _ _ _ (w.alloc (.cells ([.string k, .slice (some ⟨b, off, none⟩) n cap] : List Value).toArray 75 (0, 0)))
  rw [← HW.out, HN.out]
  go_quiet (fail)
  go_wp2
  go_ret
  exact ⟨rfl, l1.out.trans ((below_drewN _ _ _).mono l1.out.size)⟩
set_option maxHeartbeats 2000000 in
set_option maxRecDepth 100000 in
theorem search14_any {w : World} {a : Option Addr} {n cap : Nat} {M : List Sp} (h : RdG SE w (.slice a n cap) M) (k : ByteArray) (hs : M.Pairwise (fun a b => lt b.1 a.1 = false)) (hn : n ≤ 4398046511104) :
    Calls Try.prog 43 #[.int .i64 (n : Int), .func (.func 44) #[.agg #[.string k, .slice a n cap]] #[]] w fun e w' => e = .returned (.int .i64 (beg k M : Int)) ∧ Below w.heap.size w w' := by
  have HL := hide h
  have hln := hide h.len
  have HR := hide hs
  clear h hs
  obtain ⟨u, HU⟩ : ∃ u, Hid (beg k M = u) := ⟨_, rfl⟩
  have HUn : Hid (u ≤ n) := (show _ by rw [← HU.out, ← hln.out]; exact beg_le _ _)
  rw [HU.out]
  go_enter Try.func43, Try.ntmps43
  go_wp2_with fail
  go_loopg [5, 6] n (fun g x y wr => ∃ lo hi : Nat, x = .int .i64 (lo : Int) ∧ y = .int .i64 (hi : Int) ∧ hi ≤ n ∧ hi - lo ≤ g ∧ Hid (lo ≤ u ∧ u ≤ hi) ∧ Hid (Below w.heap.size w wr))
  case atStart => exact ⟨0, n, rfl, rfl, Nat.le_refl _, by omega, ⟨Nat.zero_le _, HUn.out⟩, Below.refl _ _⟩
  case round =>
    obtain ⟨lo, hi, rfl, rfl, hin, hg, HI, LR⟩ := hrel
    by_cases hlt : lo < hi
    · have q1 : (lo : Int) < (hi : Int) := by omega
      obtain ⟨m, HM⟩ : ∃ m, Hid ((lo + hi) / 2 = m) := ⟨_, rfl⟩
      have hm1 : lo ≤ m ∧ m < hi := by have := HM.out; omega
      have hcall := isAhead_any (HL.out.kept LR.out) k m (by rw [hln.out]; omega)
      rw [beg_at k HR.out (by rw [hln.out]; omega), HU.out] at hcall
      have em : ((lo : Int) + (hi : Int)) / 2 = (m : Int) := by have := HM.out; omega
      have HCALL := hide hcall
      clear hcall
      go_wp2_with fail
      refine HCALL.out.mono ?_
      rintro e w5 ⟨rfl, hb5⟩
      have L5 : Hid (Below w.heap.size w w5) := LR.out.trans (hb5.mono LR.out.size)
      clear hb5 HCALL
      by_cases hum : u ≤ m
      · rw [decide_eq_true hum]
        have I2 : Hid (lo ≤ u ∧ u ≤ m) := ⟨HI.out.1, hum⟩
        go_wp2_with fail
        go_roundg (m - lo)
        case measure => omega
        case rel => exact ⟨lo, m, rfl, rfl, by omega, Nat.le_refl _, I2, L5⟩
      · rw [decide_eq_false hum]
        have I2 : Hid (m + 1 ≤ u ∧ u ≤ hi) := ⟨by omega, HI.out.2⟩
        go_wp2_with fail
        go_roundg (hi - (m + 1))
        case measure => omega
        case rel => exact ⟨m + 1, hi, by go_num, rfl, by omega, Nat.le_refl _, I2, L5⟩
    · obtain rfl : hi = lo := by have := HI.out; omega
      have q1 : ¬ (hi : Int) < (hi : Int) := by omega
      go_wp2_with fail
      go_ret
      exact ⟨by have := HI.out; rw [show u = hi by omega]; rfl, LR.out⟩
#print axioms search14_any
set_option maxHeartbeats 1000000 in
set_option maxRecDepth 100000 in
theorem have_any {w : World} {v : Value} {l M : List Sp} (h : RdG SE w v M) (ho : Ord l M) (hl : l.length ≤ 1000000) (k : ByteArray) :
    Calls Try.prog 38 #[v, .string k] w fun e w' => e = .returned (.bool (l.any fun s => inS s k)) ∧ Below w.heap.size w w' := by
  obtain ⟨a, cp, rfl⟩ := h.slice
  rw [← ho.have k]
  have hlen := ho.len
  have HX := hide (search14_any h k ho.srt (by omega))
  have HH := hide h
  have hb := hide (beg_le k M)
  have HP : Hid (haveP M k = (decide (0 < beg k M) && lt k (M.getD (beg k M - 1) (em, em)).2)) := (show _ = _ from rfl)
  have hmf := mk_fn
  have hbd : ∀ (k : ByteArray) (x : Option Addr) (n c : Nat) (W : World), (Instr.build 75 #[(0, .string k), (1, .slice x n c)]).run Try.prog W = .ok (.agg #[.string k, .slice x n c]) W := fun k x n c W => by kernel_rfl
  obtain ⟨n, HN⟩ : ∃ n, Hid (M.length = n) := ⟨_, rfl⟩
  obtain ⟨u, HU⟩ : ∃ u, Hid (beg k M = u) := ⟨_, rfl⟩
  rw [HU.out] at HX HP
  rw [HN.out] at HX HH ⊢
  obtain ⟨q, HQ⟩ : ∃ q, Hid (haveP M k = q) := ⟨_, rfl⟩
  rw [HQ.out] at HP ⊢
  have hn0 : n ≤ 1000000 := by have := HN.out; omega
  clear h ho hl hlen
  go_enter Try.func38, Try.ntmps38
  go_wp2_with fail
  refine HX.out.mono ?_
  rintro e w5 ⟨rfl, hb5⟩
  have L5 := hide hb5
  have H5 := HH.out.kept hb5
  clear hb5 HX
  by_cases hu : u = 0
  · subst hu
    have hq : q = false := by rw [HP.out]; rfl
    subst hq
    go_wp2_with fail
    go_ret
    exact ⟨rfl, L5.out⟩
  · have hun : u ≤ n := by have := hb.out; rw [HU.out, HN.out] at this; exact this
    obtain ⟨m, rfl⟩ : ∃ m, u = m + 1 := ⟨u - 1, by omega⟩
    have q1 : decide ((0 : Int) < ((m + 1 : Nat) : Int)) = true := by simp
    have q2 : decide (0 < m + 1) = true := by simp
    obtain ⟨b, off, rfl, hlb, hx⟩ := H5.nth (by omega)
    have hm : m < M.length := by rw [HN.out]; omega
    have c0 : w5.cell? ⟨b, off + m * 2 + 1, none⟩ = some (.string M[m].2) := hx m hm 1 _ rfl
    have hq : q = lt k M[m].2 := by rw [HP.out, Nat.add_sub_cancel, getD_at hm, q2]; rfl
    generalize M[m].2 = y at c0 hq
    subst hq
    have hmn : (m : Int) < (n : Int) := by omega
    clear hx H5 hm hu q2
    go_wp2_with fail
    go_ret
    exact ⟨rfl, L5.out⟩
#print axioms have_any
end Go.Proofs.Ythniaoacanabdaa
