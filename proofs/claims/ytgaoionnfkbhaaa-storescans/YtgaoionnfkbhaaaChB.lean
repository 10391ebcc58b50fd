/-
  chain's copied, upTo, with sort.Search and its function, and Last, the reference's too: what the calls do.
-/
import Derived.Test.YtgaoionnfkbhaaaChA
namespace Go.Proofs.Ytgaoionnfkbhaaa
open Go.RowKit

set_option maxHeartbeats 1000000 in
set_option maxRecDepth 100000 in
theorem copied_any {w : World} {v : Value} {L : List Ver} (h : RdV w v L) (hl : L.length ≤ 4398046511104) :
    Calls Try.prog 56 #[v] w fun e w' => ∃ v', e = .returned v' ∧ OwnV w' w.heap.size 76 v' L ∧ Below w.heap.size w w' := by
  obtain ⟨i0, hi0, hz0, hz1, hz2⟩ := info_parts Try.info76
  obtain ⟨a, cp, rfl⟩ := h.slice
  have ba : Below w.heap.size w (w.alloc (.cells (VCs (List.replicate L.length zv)).toArray 76 (0, 0))) := (Below.refl _ _).alloc (Nat.le_refl _) _
  have R1 := hide (h.kept ba)
  have B1 := hide (Blk.new w 76 (VCs (List.replicate L.length zv)))
  have ho := B1.out.overV 0 L (by simp)
  have e1 : overV (List.replicate L.length zv) 0 L = L := by simp [overV]
  rw [e1, Nat.zero_mul] at ho
  have HO := hide (own_blk (B := w.heap.size) ho (Nat.le_refl _) (by simp only [maxLen]; omega))
  have HB := hide (ba.trans ((But.setCells w.heap.size (VCs L) 0 _).below (Nat.le_refl _) (by simp)))
  have hlz : (VCs (List.replicate L.length zv)).length = L.length * 3 := by rw [VCs_length, List.length_replicate]
  have HLZ := hide hlz
  clear ho ba h e1 hlz
  go_enter Try.func56, Try.ntmps56
  go_wp2_with (first
    | (at_make; refine wpList_make_vers _ rfl _ _ 66 76 rfl i0 Try.underlying66 hi0 hz0 hz1 hz2 .i64 .i64 _ _ L.length L.length rfl rfl rfl rfl (Nat.le_refl _) (by omega) ?_)
    | (refine wpList_copy_vers rfl _ _ 66 66 rfl 76 Try.underlying66 Try.size76 w.heap.size L.length L.length _ L rfl rfl R1.out (Nat.le_refl _) 76 _ B1.out (by rw [HLZ.out]; exact Nat.le_refl _) ?_)
    | fail)
  go_ret
  exact ⟨_, rfl, HO.out, HB.out⟩
#print axioms copied_any

/-- The function that the search asks: is the version at place i behind the snapshot? -/
theorem search1_any {w : World} {a : Option Addr} {n cap : Nat} {L : List Ver} {Bc Bs : Nat} {snap : Int} (h : RdV w (.slice a n cap) L) (hc : w.cell? ⟨Bc, 0, none⟩ = some (.slice a n cap)) (hs : w.cell? ⟨Bs, 0, none⟩ = some (.int .i64 snap)) (i : Nat) (hi : i < L.length) :
    Calls Try.prog 61 #[.int .i64 (i : Int), .pointer (some ⟨Bc, 0, none⟩), .pointer (some ⟨Bs, 0, none⟩)] w fun e w' => e = .returned (.bool (decide (snap < L[i].1))) ∧ Below w.heap.size w w' := by
  have hln := h.len
  obtain ⟨b, off, rfl, hlb, hx⟩ := h.nth (by omega)
  have c0 := hx i hi 0 _ rfl
  have hin : (i : Int) < (n : Int) := by omega
  simp only [Nat.add_zero] at c0
  generalize L[i].1 = y at c0 ⊢
  clear hx hln h
  go_enter Try.func61, Try.ntmps61
  go_wp2_with fail
  go_quiet (fail)
  go_wp2
  go_ret
  exact ⟨rfl, below_drewN _ _ _⟩
#print axioms search1_any

set_option maxHeartbeats 2000000 in
set_option maxRecDepth 100000 in
theorem search_any {w : World} {a : Option Addr} {n cap : Nat} {L : List Ver} {Bc Bs : Nat} {snap : Int} (h : RdV w (.slice a n cap) L) (hc : w.cell? ⟨Bc, 0, none⟩ = some (.slice a n cap)) (hs : w.cell? ⟨Bs, 0, none⟩ = some (.int .i64 snap)) (hr : Rise L) (hn : n ≤ 4398046511104) :
    Calls Try.prog 60 #[.int .i64 (n : Int), .func (.func 61) #[] #[.pointer (some ⟨Bc, 0, none⟩), .pointer (some ⟨Bs, 0, none⟩)]] w fun e w' => e = .returned (.int .i64 ((upto snap L).length : Int)) ∧ Below w.heap.size w w' := by
  have HL := hide h
  have hln := hide h.len
  have HC := hide hc
  have HS := hide hs
  have HR := hide hr
  have hbc := World.block_lt_of_cell? _ _ hc
  have hbs := World.block_lt_of_cell? _ _ hs
  clear h hc hs hr
  obtain ⟨u, HU⟩ : ∃ u, Hid ((upto snap L).length = u) := ⟨_, rfl⟩
  have HUn : Hid (u ≤ n) := (show _ by rw [← HU.out, ← hln.out]; exact upto_le _ _)
  rw [HU.out]
  go_enter Try.func60, Try.ntmps60
  go_wp2_with fail
  go_loopg [5, 6] n (fun g x y wr => ∃ lo hi : Nat, x = .int .i64 (lo : Int) ∧ y = .int .i64 (hi : Int) ∧ hi ≤ n ∧ hi - lo ≤ g ∧ Hid (lo ≤ u ∧ u ≤ hi) ∧ Hid (Below w.heap.size w wr))
  case atStart => exact ⟨0, n, rfl, rfl, Nat.le_refl _, by omega, ⟨Nat.zero_le _, HUn.out⟩, Below.refl _ _⟩
  case round =>
    obtain ⟨lo, hi, rfl, rfl, hin, hg, HI, LR⟩ := hrel
    by_cases hlt : lo < hi
    · have q1 : (lo : Int) < (hi : Int) := by omega
      obtain ⟨m, HM⟩ : ∃ m, Hid ((lo + hi) / 2 = m) := ⟨_, rfl⟩
      have hm1 : lo ≤ m ∧ m < hi := by have := HM.out; omega
      have hcall := search1_any (HL.out.kept LR.out) ((LR.out.cell (p := ⟨Bc, 0, none⟩) hbc).trans HC.out) ((LR.out.cell (p := ⟨Bs, 0, none⟩) hbs).trans HS.out) m (by rw [hln.out]; omega)
      rw [upto_at HR.out (by rw [hln.out]; omega), HU.out] at hcall
      have em : ((lo : Int) + (hi : Int)) / 2 = (m : Int) := by have := HM.out; omega
      have HCALL := hide hcall
      clear hcall
      go_wp2_with fail
      refine HCALL.out.mono ?_
      rintro e w5 ⟨rfl, hb5⟩
      have L5 : Hid (Below w.heap.size w w5) := LR.out.trans (hb5.mono LR.out.size)
      clear hb5 HCALL
      by_cases hum : u ≤ m
      · rw [decide_eq_true hum]
        have I2 : Hid (lo ≤ u ∧ u ≤ m) := ⟨HI.out.1, hum⟩
        go_wp2_with fail
        go_roundg (m - lo)
        case measure => omega
        case rel => exact ⟨lo, m, rfl, rfl, by omega, Nat.le_refl _, I2, L5⟩
      · rw [decide_eq_false hum]
        have I2 : Hid (m + 1 ≤ u ∧ u ≤ hi) := ⟨by omega, HI.out.2⟩
        go_wp2_with fail
        go_roundg (hi - (m + 1))
        case measure => omega
        case rel => exact ⟨m + 1, hi, by go_num, rfl, by omega, Nat.le_refl _, I2, L5⟩
    · obtain rfl : hi = lo := by have := HI.out; omega
      have q1 : ¬ (hi : Int) < (hi : Int) := by omega
      go_wp2_with fail
      go_ret
      exact ⟨by have := HI.out; rw [show u = hi by omega]; rfl, LR.out⟩
#print axioms search_any

theorem cell_box (w : World) (v : Value) (t : TypeId) : (w.alloc (.cells #[v] t (0, 0))).cell? ⟨w.heap.size, 0, none⟩ = some v := by
  rw [World.cell?_alloc_at _ _ _ _ (by simp)]; rfl
set_option maxHeartbeats 1000000 in
set_option maxRecDepth 100000 in
theorem upTo_any {w : World} {v : Value} {L : List Ver} (h : RdV w v L) (hr : Rise L) (hl : L.length ≤ 4398046511104) (snap : Int) :
    Calls Try.prog 50 #[v, .int .i64 snap] w fun e w' => e = .returned (.int .i64 ((upto snap L).length : Int)) ∧ Below w.heap.size w w' := by
  obtain ⟨a, cp, rfl⟩ := h.slice
  obtain ⟨n, HN⟩ : ∃ n, Hid (L.length = n) := ⟨_, rfl⟩
  rw [HN.out] at h hl ⊢
  have hmf : ∀ (fn : Fn) (first cap : Array Value) (w : World), (Instr.makeFunc fn first cap).run Try.prog w = .ok (.func fn first cap) w := fun _ _ _ _ => rfl
  have b1 : Below w.heap.size w (w.alloc (.cells #[.slice a n cp] 66 (0, 0))) := (Below.refl _ _).alloc (Nat.le_refl _) _
  have c1 := cell_box w (.slice a n cp) 66
  obtain ⟨w1, hw1⟩ : ∃ x, x = w.alloc (.cells #[.slice a n cp] 66 (0, 0)) := ⟨_, rfl⟩
  have hs1 : w1.heap.size = w.heap.size + 1 := by rw [hw1]; simp
  rw [← hw1] at b1 c1
  have b2 : Below w1.heap.size w1 (w1.alloc (.cells #[.int .i64 snap] 3 (0, 0))) := (Below.refl _ _).alloc (Nat.le_refl _) _
  have c2 := cell_box w1 (.int .i64 snap) 3
  have c1' := (b2.cell (p := ⟨w.heap.size, 0, none⟩) (by rw [hs1]; simp)).trans c1
  rw [hs1] at c2
  have HX := hide (search_any ((h.kept b1).kept b2) c1' c2 hr hl)
  have HB := hide (b1.trans (b2.mono b1.size))
  rw [hw1] at c1' HX HB
  clear hs1 b1 c1 b2 c2 hw1 h hr
  go_enter Try.func50, Try.ntmps50
  go_wp2_with fail
  refine HX.out.mono ?_
  rintro e w5 ⟨rfl, hb5⟩
  have L5 : Hid (Below w.heap.size w w5) := HB.out.trans (hb5.mono HB.out.size)
  clear hb5 HX
  go_wp2_with fail
  go_ret
  exact ⟨rfl, L5.out⟩
#print axioms upTo_any

theorem lst_good {L : List Ver} (hg : gd 0 L = true) (hp : 0 < L.length) : lst L = (L[L.length - 1]'(by omega)).1 := by
  unfold lst
  rw [if_pos hg, List.getLast?_eq_getElem?, List.getElem?_eq_getElem (by omega)]
  rfl
theorem lst_bad {L : List Ver} (hg : gd 0 L = false) : lst L = 0 := by
  unfold lst
  rw [hg]
  rfl
set_option maxHeartbeats 1000000 in
set_option maxRecDepth 100000 in
theorem last_any {w : World} {v : Value} {L : List Ver} (h : RdV w v L) : Calls Try.prog 55 #[v] w fun e w' => e = .returned (.int .i64 (lst L)) ∧ Below w.heap.size w w' := by
  have HL := hide h
  obtain ⟨a, cp, rfl⟩ := h.slice
  have hn : L.length ≤ 9223372036854775807 := Nat.le_trans h.cap h.max
  clear h
  obtain ⟨n, HN⟩ : ∃ n, Hid (L.length = n) := ⟨_, rfl⟩
  rw [HN.out] at HL hn ⊢
  by_cases hp : n = 0
  · subst hp
    have HF : Hid (lst L = 0) := (show _ = _ by rw [List.eq_nil_of_length_eq_zero HN.out]; rfl)
    go_enter Try.func55, Try.ntmps55
    go_wp2_with fail
    go_ret
    exact ⟨by rw [HF.out]; rfl, Below.refl _ _⟩
  · have q1 : ((n : Int) == 0) = false := by simp; omega
    go_enter Try.func55, Try.ntmps55
    go_wp2_with fail
    refine (good_any HL.out).mono ?_
    rintro e w5 ⟨rfl, hb5⟩
    have L5 := hide hb5
    obtain ⟨q, HQ⟩ : ∃ q, Hid (gd 0 L = q) := ⟨_, rfl⟩
    rw [HQ.out]
    cases q with
    | false =>
      have HF := hide (lst_bad HQ.out)
      clear hb5
      go_wp2_with fail
      go_ret
      exact ⟨by rw [HF.out]; rfl, L5.out⟩
    | true =>
      obtain ⟨b, off, rfl, hlb, hx⟩ := (HL.out.kept L5.out).nth (by omega)
      have hlt' : n - 1 < L.length := by rw [HN.out]; omega
      have c0 := hx (n - 1) hlt' 0 _ rfl
      have HF : Hid (lst L = (L[n - 1]).1) := (show _ = _ by
        have := lst_good HQ.out (by omega)
        simp only [HN.out] at this
        exact this)
      simp only [Nat.add_zero] at c0
      generalize (L[n - 1]).1 = y at c0 HF
      have e1 : (n : Int) - 1 = ((n - 1 : Nat) : Int) := by omega
      have e2 : ((n - 1 : Nat) : Int) < (n : Int) := by omega
      clear hx hb5
      go_wp2_with fail
      go_ret
      exact ⟨by rw [HF.out]; rfl, L5.out⟩
#print axioms last_any
set_option maxHeartbeats 1000000 in
set_option maxRecDepth 100000 in
theorem klast_any {w : World} {v : Value} {L : List Ver} (h : RdV w v L) : Calls Try.prog 65 #[v] w fun e w' => e = .returned (.int .i64 (lst L)) ∧ Below w.heap.size w w' := by
  have HL := hide h
  obtain ⟨a, cp, rfl⟩ := h.slice
  have hn : L.length ≤ 9223372036854775807 := Nat.le_trans h.cap h.max
  clear h
  obtain ⟨n, HN⟩ : ∃ n, Hid (L.length = n) := ⟨_, rfl⟩
  rw [HN.out] at HL hn ⊢
  by_cases hp : n = 0
  · subst hp
    have HF : Hid (lst L = 0) := (show _ = _ by rw [List.eq_nil_of_length_eq_zero HN.out]; rfl)
    go_enter Try.func65, Try.ntmps65
    go_wp2_with fail
    go_ret
    exact ⟨by rw [HF.out]; rfl, Below.refl _ _⟩
  · have q1 : ((n : Int) == 0) = false := by simp; omega
    go_enter Try.func65, Try.ntmps65
    go_wp2_with fail
    refine (kgood_any HL.out).mono ?_
    rintro e w5 ⟨rfl, hb5⟩
    have L5 := hide hb5
    obtain ⟨q, HQ⟩ : ∃ q, Hid (gd 0 L = q) := ⟨_, rfl⟩
    rw [HQ.out]
    cases q with
    | false =>
      have HF := hide (lst_bad HQ.out)
      clear hb5
      go_wp2_with fail
      go_ret
      exact ⟨by rw [HF.out]; rfl, L5.out⟩
    | true =>
      obtain ⟨b, off, rfl, hlb, hx⟩ := (HL.out.kept L5.out).nth (by omega)
      have hlt' : n - 1 < L.length := by rw [HN.out]; omega
      have c0 := hx (n - 1) hlt' 0 _ rfl
      have HF : Hid (lst L = (L[n - 1]).1) := (show _ = _ by
        have := lst_good HQ.out (by omega)
        simp only [HN.out] at this
        exact this)
      simp only [Nat.add_zero] at c0
      generalize (L[n - 1]).1 = y at c0 HF
      have e1 : (n : Int) - 1 = ((n - 1 : Nat) : Int) := by omega
      have e2 : ((n - 1 : Nat) : Int) < (n : Int) := by omega
      clear hx hb5
      go_wp2_with fail
      go_ret
      exact ⟨by rw [HF.out]; rfl, L5.out⟩
#print axioms klast_any
end Go.Proofs.Ytgaoionnfkbhaaa
