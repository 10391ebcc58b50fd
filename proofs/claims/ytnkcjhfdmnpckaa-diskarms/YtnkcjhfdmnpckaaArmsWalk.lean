/-
  indenturelaw05.DiskArms: the walk: the call returns true and makes new memory alone.
-/
import Derived.Test.YtnkcjhfdmnpckaaDLives
namespace Go.Proofs.Ytnkcjhfdmnpckaa
open Go.RowKit
open Pd (DM)
/-- The disk of DiskArms: i writes are done. -/
structure Arms (k i : Nat) (m : DM) : Prop where
  off : m.off = false
  ok : Pd.Ok 4 m
  safe : m.safe = List.replicate 128 0
  armed : m.armed + i = k
  keep : m.keep = [1, 2, 3]
  torn : m.torn = 0
theorem arms_new (k : Nat) : Arms k 0 (Pd.arm (Pd.new 4) (k : Int) [1, 2, 3] 0) := ⟨rfl, (Pd.ok_new 4).arm _ _ _, rfl, by simp [Pd.arm], rfl, rfl⟩
theorem Arms.write {k i : Nat} {m : DM} (h : Arms k i m) (hi : i + 1 < k) (x : UInt8) : (Pd.write m 0 [x]).1 = 0 ∧ Arms k (i + 1) (Pd.write m 0 [x]).2 ∧ (Pd.write m 0 [x]).2.now[0]? = some x := by
  have ha := h.armed
  have hs : Pd.strike m = (false, { m with armed := m.armed - 1 }) := by unfold Pd.strike; rw [if_neg (by omega), if_neg (by omega)]
  have hn := h.ok.now
  have e : Pd.write m 0 [x] = (0, { m with armed := m.armed - 1, now := Pd.spl m.now 0 [x], dirty := Pd.touch m.dirty 0 1 }) := by
    unfold Pd.write
    rw [if_neg (by rw [h.off]; simp), if_neg (by omega), if_neg (by rw [hn]; simp), if_neg (by simp), hs]
    rfl
  have ho := h.ok.write 0 [x]
  rw [e] at ho ⊢
  refine ⟨rfl, ⟨h.off, ho, h.safe, by show m.armed - 1 + (i + 1) = k; omega, h.keep, h.torn⟩, ?_⟩
  show (Pd.spl m.now 0 [x])[0]? = some x
  rw [Pd.spl_get (by rw [hn]; simp)]
  simp
theorem Arms.none {k i : Nat} {m : DM} (h : Arms k i m) : Pd.write m 0 [] = (0, m) := by
  unfold Pd.write
  rw [if_neg (by rw [h.off]; simp), if_neg (by omega), if_neg (by rw [h.ok.now]; simp), if_pos rfl]
theorem read_first {m : DM} {x : UInt8} (hoff : m.off = false) (ho : Pd.Ok 4 m) (hx : m.now[0]? = some x) : Pd.read m 0 1 = ([x], 0) := by
  unfold Pd.read
  rw [hoff, if_neg (by simp), if_neg (by rw [ho.now]; simp)]
  cases hm : m.now with
  | nil => rw [hm] at hx; simp at hx
  | cons y r => rw [hm] at hx; simp at hx; subst hx; rfl
theorem Arms.last {k i : Nat} {m : DM} (h : Arms k i m) (hi : i + 1 = k) : (Pd.write m 0 [99]).1 = 7 ∧ (Pd.write m 0 [99]).2.off = true ∧ (Pd.start (Pd.write m 0 [99]).2).1 = true ∧ Pd.read (Pd.start (Pd.write m 0 [99]).2).2 0 1 = ([0], 0) ∧ (Pd.write (Pd.start (Pd.write m 0 [99]).2).2 0 [1]).1 = 0 := by
  have ha := h.armed
  have hs : Pd.strike m = (true, Pd.crash m [1, 2, 3] 0) := by unfold Pd.strike; rw [if_neg (by omega), if_pos (by omega), h.keep, h.torn]
  have hn := h.ok.now
  have e : Pd.write m 0 [99] = (7, Pd.crash m [1, 2, 3] 0) := by
    unfold Pd.write
    rw [if_neg (by rw [h.off]; simp), if_neg (by omega), if_neg (by rw [hn]; simp), if_neg (by simp), hs]
  have hc := h.ok.crash [1, 2, 3] 0
  have hcs := hc.start (fun _ => rfl)
  have h0 : (Pd.start (Pd.crash m [1, 2, 3] 0)).2.now[0]? = some 0 := by
    show (Pd.crash m [1, 2, 3] 0).now[0]? = some 0
    rw [Pd.crash_cut h.ok 0 (i := 0) (by decide), if_neg (by simp [Pd.clip]), h.safe]
    rfl
  rw [e]
  refine ⟨rfl, rfl, rfl, read_first rfl hcs h0, ?_⟩
  unfold Pd.write
  rw [if_neg (by simp [Pd.start, Pd.crash]), if_neg (by omega), if_neg (by rw [hcs.now]; simp), if_neg (by simp)]
  rfl
theorem rd_one {w : World} {v : Value} {x : UInt8} (h : Rd w v [x]) : ∃ b off cp, v = .slice (some ⟨b, off, none⟩) 1 cp ∧ w.cell? ⟨b, off, none⟩ = some (.int .u8 (x.toNat : Int)) := by
  obtain ⟨a, cp, rfl, -, -, -, h4⟩ := h
  obtain ⟨b, off, rfl, -, hc⟩ := h4 (by simp)
  exact ⟨b, off, cp, rfl, hc 0 _ rfl⟩
theorem One.write1 {w0 w : World} {D n : Nat} {m : DM} (h : One w0 w D n m) (p : Int) (hp : (Lit.int .i64 p).wf = true) (x : UInt8) (y : Int) (hy : y = (x.toNat : Int)) (fr : Nat × Nat) :
    Calls Try.prog 15 #[.pointer (some ⟨D, 0, none⟩), .int .i64 p, .slice (some ⟨w.heap.size, 0, none⟩) 1 1] (w.alloc (.cells #[.int .u8 y] 5 fr)) fun e w' => e = .returned (.int .i64 ((Pd.write m p [x]).1 : Int)) ∧ One w0 w' D n (Pd.write m p [x]).2 := by
  subst hy
  exact h.writeN p hp [x] (by simp) fr
theorem One.write0 {w0 w : World} {D n : Nat} {m : DM} (h : One w0 w D n m) (p : Int) (hp : (Lit.int .i64 p).wf = true) :
    Calls Try.prog 15 #[.pointer (some ⟨D, 0, none⟩), .int .i64 p, .slice none 0 0] w fun e w' => e = .returned (.int .i64 ((Pd.write m p []).1 : Int)) ∧ One w0 w' D n (Pd.write m p []).2 := h.write p hp _ [] (Rd_nil _)
set_option maxHeartbeats 4000000 in
set_option maxRecDepth 100000 in
theorem diskArms_any (n0 j0 : Nat) (_ : Hid (n0 < 256 ^ 8)) (_ : Hid (j0 < 256 ^ 8)) (w : World) : Calls Try.prog 6 #[.int .u64 (n0 : Int), .int .u64 (j0 : Int)] w fun e w' => e = .returned (.bool true) ∧ Below w.heap.size w w' := by
  obtain ⟨k, HK⟩ : ∃ k, Hid (k = n0 % 20 + 1) := ⟨_, rfl⟩
  have hk1 : 1 ≤ k := by have := HK.out; omega
  have hk2 : k ≤ 20 := by have := HK.out; omega
  obtain ⟨z, HZ⟩ : ∃ z, Hid (z = j0 % 4) := ⟨_, rfl⟩
  have hz2 : z < 4 := by have := HZ.out; omega
  go_enter Try.func6, Try.ntmps6
  go_wp2_with fail
  refine (One.new w 4 (by decide) (by decide)).mono ?_
  rintro e w1 ⟨D, rfl, o1⟩
  have O1 : Hid (One w w1 D 4 (Pd.new 4)) := o1
  clear o1
  have EK : Hid (1 + (n0 : Int) % 20 = (k : Int)) := (show _ = _ by have := HK.out; omega)
  have HC : Hid _ := O1.out.armN (k : Int) (WalkArith.wf_i64 (by omega)) [1, 2, 3] 0 (by decide) (by decide) (0, 0)
  go_wp2_with fail
  rw [EK.out]
  refine Calls.mono HC.out ?_
  rintro e w2 ⟨rfl, o2⟩
  obtain ⟨m2, HM2⟩ : ∃ m, Hid (Pd.arm (Pd.new 4) (k : Int) [1, 2, 3] 0 = m) := ⟨_, rfl⟩
  have AR2 : Hid (Arms k 0 m2) := (show Arms _ _ _ by rw [← HM2.out]; exact arms_new k)
  rw [HM2.out] at o2
  have O2 : Hid (One w w2 D 4 m2) := o2
  clear o2 HC O1
  go_wp2_with fail
  go_loopg [7] k (fun g x wr => ∃ i : Nat, 1 ≤ i ∧ i ≤ k ∧ g + i = k + 1 ∧ x = .int .i64 (i : Int) ∧ ∃ m, Hid (One w wr D 4 m) ∧ Hid (Arms k (i - 1) m))
  case atStart => exact ⟨1, by omega, by omega, by omega, rfl, m2, O2, AR2⟩
  case round =>
    obtain ⟨i, hi1, hik, hgi, rfl, m, OR, AR⟩ := hrel
    by_cases hlt : i < k
    · have q1 : (i : Int) < (k : Int) := by omega
      obtain ⟨h1, h2, h3⟩ := AR.out.write (by omega) (UInt8.ofNat i)
      obtain ⟨x, HX⟩ : ∃ x, Hid (UInt8.ofNat i = x) := ⟨_, rfl⟩
      have HXI : Hid ((i : Int) = (x.toNat : Int)) := (show _ = _ by rw [← HX.out, UInt8.toNat_ofNat']; omega)
      rw [HX.out] at h1 h2 h3
      obtain ⟨m3, HM3⟩ : ∃ m', Hid ((Pd.write m 0 [x]).2 = m') := ⟨_, rfl⟩
      rw [HM3.out] at h2 h3
      have A3 : Hid (Arms k (i - 1 + 1) m3) := h2
      have F3 : Hid (m3.now[0]? = some x) := h3
      have C3 : Hid ((Pd.write m 0 [x]).1 = 0) := h1
      have HC : Hid _ := OR.out.write1 0 (by decide) x (i : Int) HXI.out (0, 0)
      clear h1 h2 h3
      go_wp2_with fail
      refine Calls.mono HC.out ?_
      rintro e w3 ⟨rfl, o3⟩
      rw [C3.out]
      rw [HM3.out] at o3
      have O3 : Hid (One w w3 D 4 m3) := o3
      clear o3 HC OR AR
      go_wp2_with fail
      refine (O3.out.on).mono ?_
      rintro e w4 ⟨rfl, hw⟩; subst hw
      rw [A3.out.off]
      obtain ⟨gk1, HGK⟩ : ∃ g, Hid (gk = g) := ⟨_, rfl⟩
      have hgi1 : gk1 + i = k + 1 := by rw [← HGK.out]; exact hgi
      go_wp2_with fail
      go_loopg [8] 4 (fun g x wr => ∃ j : Nat, j ≤ z ∧ g + j = 4 ∧ x = .int .i64 (j : Int) ∧ Hid (One w wr D 4 m3))
      case atStart => exact ⟨0, by omega, by omega, rfl, O3⟩
      case round =>
        obtain ⟨j, hjz, hgj, rfl, OJ⟩ := hrel
        clear O3
        have EZ : Hid ((j0 : Int) % 4 = (z : Int)) := (show _ = _ by have := HZ.out; omega)
        by_cases hjl : j < z
        · have q2 : (j : Int) < (j0 : Int) % 4 := by rw [EZ.out]; omega
          go_wp2_with fail
          refine (OJ.out.read 0 1 (by decide)).mono ?_
          rintro e w5 ⟨v5, rfl, r5, o5, b5⟩
          rw [read_first A3.out.off A3.out.ok F3.out] at r5 ⊢
          have O5 : Hid (One w w5 D 4 m3) := o5
          obtain ⟨g5, off5, cp5, rfl, k5⟩ := rd_one r5
          rw [← HXI.out] at k5
          clear r5 o5 b5 OJ
          go_wp2_with fail
          refine (O5.out.write0 0 (by decide)).mono ?_
          rintro e w6 ⟨rfl, o6⟩
          rw [A3.out.none] at o6 ⊢
          have O6 : Hid (One w w6 D 4 m3) := o6
          clear o6 O5 k5
          go_wp2_with fail
          go_roundg (gk - 1)
          case measure => omega
          case rel => exact ⟨j + 1, by omega, by omega, by go_num, O6⟩
        · have q2 : ¬ (j : Int) < (j0 : Int) % 4 := by rw [EZ.out]; omega
          go_wp2_with fail
          go_roundg (gk1 - 1)
          case measure => omega
          case rel => exact ⟨i + 1, by omega, by omega, by omega, by go_num, m3, OJ, (show Arms _ _ _ by rw [show i + 1 - 1 = i - 1 + 1 by omega]; exact A3.out)⟩
    · obtain rfl : i = k := by omega
      obtain ⟨h1, h2, h3, h4, h5⟩ := AR.out.last (by omega)
      obtain ⟨m3, HM3⟩ : ∃ m', Hid ((Pd.write m 0 [99]).2 = m') := ⟨_, rfl⟩
      rw [HM3.out] at h2 h3 h4 h5
      obtain ⟨m4, HM4⟩ : ∃ m', Hid ((Pd.start m3).2 = m') := ⟨_, rfl⟩
      rw [HM4.out] at h4 h5
      have C1 : Hid ((Pd.write m 0 [99]).1 = 7) := h1
      have C2 : Hid (m3.off = true) := h2
      have C3 : Hid ((Pd.start m3).1 = true) := h3
      have C4 : Hid (Pd.read m4 0 1 = ([0], 0)) := h4
      have C5 : Hid ((Pd.write m4 0 [1]).1 = 0) := h5
      have HC : Hid _ := OR.out.write1 0 (by decide) 99 99 (by decide) (0, 0)
      clear h1 h2 h3 h4 h5
      go_wp2_with fail
      refine Calls.mono HC.out ?_
      rintro e w3 ⟨rfl, o3⟩
      rw [C1.out]
      rw [HM3.out] at o3
      have O3 : Hid (One w w3 D 4 m3) := o3
      clear o3 HC OR AR
      go_wp2_with fail
      refine (O3.out.on).mono ?_
      rintro e w4 ⟨rfl, hw⟩; subst hw
      rw [C2.out]
      go_wp2_with fail
      refine (O3.out.start).mono ?_
      rintro e w5 ⟨rfl, o5⟩
      rw [C3.out]
      rw [HM4.out] at o5
      have O5 : Hid (One w w5 D 4 m4) := o5
      clear o5 O3
      go_wp2_with fail
      refine (O5.out.read 0 1 (by decide)).mono ?_
      rintro e w6 ⟨v6, rfl, r6, o6, b6⟩
      rw [C4.out] at r6 ⊢
      have O6 : Hid (One w w6 D 4 m4) := o6
      obtain ⟨g6, off6, cp6, rfl, k6⟩ := rd_one r6
      have k6' : w6.cell? ⟨g6, off6, none⟩ = some (.int .u8 0) := k6
      have HC : Hid _ := o6.write1 0 (by decide) 1 1 (by decide) (0, 0)
      clear r6 o6 b6 O5 k6
      go_wp2_with fail
      refine Calls.mono HC.out ?_
      rintro e w7 ⟨rfl, o7⟩
      rw [C5.out]
      have B7 : Hid (Below w.heap.size w w7) := o7.below
      clear o7 HC
      go_wp2_with fail
      refine (lives_any w7).mono ?_
      rintro e w8 ⟨rfl, hb8⟩
      have B8 : Hid (Below w.heap.size w w8) := B7.out.trans (hb8.mono B7.out.size)
      clear hb8
      go_wp2
      go_ret
      exact ⟨rfl, B8.out⟩
end Go.Proofs.Ytnkcjhfdmnpckaa
