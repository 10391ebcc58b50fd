/-
  pack.limit, GetStr, GetFlag; the reference's: what the calls do.
-/
import Derived.Test.YtmicmbjbclkbjaaRefGet
import Derived.Test.YtmicmbjbclkbjaaArgsB
namespace Go.Proofs.Ytmicmbjbclkbjaa
open Go.RowKit
theorem ret_intG {k : IntKind} {a b : Int} (h : a = b) : Ending.returned (.int k a) = .returned (.int k b) := by rw [h]

theorem limit_any (m : Int) (w : World) (h : (Lit.int .i64 m).wf = true) : Calls Try.prog 58 #[.int .i64 m] w fun e w' => e = .returned (.int .u64 (m.toNat : Int)) ∧ w' = w := by
  have hb := bounds_i64 h
  have HB : Hid (m ≤ 9223372036854775807) := hb.2
  clear hb h
  go_enter Try.func58, Try.ntmps58
  go_wp2
  · go_ret
    exact ⟨ret_intG (by rw [IntKind.wrap_u64]; omega), rfl⟩
  · go_ret
    exact ⟨ret_intG (by rw [IntKind.wrap_u64]; have := HB.out; omega), rfl⟩

theorem ret_str {s t : List UInt8} {c d : Int} {x y : Bool} (h1 : s = t) (h2 : c = d) (h3 : x = y) : Ending.returned (.tuple #[.string ⟨s.toArray⟩, .int .i64 c, .bool x]) = .returned (.tuple #[.string ⟨t.toArray⟩, .int .i64 d, .bool y]) := by
  rw [h1, h2, h3]

set_option maxRecDepth 100000 in
set_option maxHeartbeats 400000 in
theorem getStr_any (v : Value) (l : List UInt8) (m : Int) (w : World) (h : Rd w v l) (hl : l.length ≤ 140737488300000) (hm : (Lit.int .i64 m).wf = true) :
    Calls Try.prog 38 #[v, .int .i64 m] w fun e w' => e = .returned (.tuple #[.string ⟨(gs l m.toNat).1.toArray⟩, .int .i64 (gs l m.toNat).2.1, .bool (gs l m.toNat).2.2]) ∧ Below w.heap.size w w' := by
  rcases gn_cases l with hg | ⟨n, k, hg⟩
  · have HG : Hid (gs l m.toNat = ([], 0, false)) := gs_no hg (by simp)
    have h0 := h
    obtain ⟨a, cap, rfl, -⟩ := h
    go_enter Try.func38, Try.ntmps38
    go_wp2_with fail
    refine (getNum_any _ l _ h0 (by omega)).mono ?_
    rw [hg]
    rintro e w1 ⟨rfl, hb1⟩
    go_wp2_with fail
    go_ret3
    exact ⟨by rw [HG.out]; rfl, hb1⟩
  · obtain ⟨hk1, hk9, hkl, hn8, -⟩ := gn_ok hg
    have Hn8 : Hid (n < 256 ^ 8) := hn8
    clear hn8
    have h0 := h
    obtain ⟨a, cap, rfl, hcap, -, -, h4⟩ := h
    obtain ⟨b, off, rfl, -, -⟩ := h4 (by omega)
    clear h4
    by_cases hn : n ≤ m.toNat
    · have hn' : (n : Int) ≤ (m.toNat : Int) := by omega
      by_cases hnk : n + k ≤ l.length
      · have HG : Hid (gs l m.toNat = ((l.drop k).take n, k + n, true)) := gs_yes hg hn hnk
        have h1 : (k : Int) ≤ l.length := by omega
        have h2 : (n : Int) ≤ (l.length : Int) - k := by omega
        have hk' : Hid (k ≤ l.length) := hkl
        by_cases hck : cap = k
        · obtain rfl : n = 0 := by omega
          have hlk : l.length = k := by omega
          have hrd := (h0.drop k hkl off (.inr hlk.symm)).take 0 (by omega)
          subst hck
          have hkk : Hid (l.length = cap) := hlk
          clear hlk
          go_enter Try.func38, Try.ntmps38
          go_wp2_with fail
          refine (getNum_any _ l _ h0 (by omega)).mono ?_
          rw [hg]
          rintro e w1 ⟨rfl, hb1⟩
          have hcv := (hrd.kept hb1).conv (P := Try.prog) 22 9 Try.underlying22 Try.underlying5 Try.underlying9
          simp only [Nat.sub_self, List.take_zero] at hcv
          clear hrd h0
          go_wp2_with fail
          refine (limit_any _ _ hm).mono ?_
          rintro e w2 ⟨rfl, rfl⟩
          go_wp2_with fail
          go_ret3
          refine ⟨?_, hb1⟩
          rw [HG.out]
          exact ret_str (by simp) (by simp) rfl
        · have hrd := (h0.drop k hkl (off + k) (.inl rfl)).take n (by omega)
          go_enter Try.func38, Try.ntmps38
          go_wp2_with fail
          refine (getNum_any _ l _ h0 (by omega)).mono ?_
          rw [hg]
          rintro e w1 ⟨rfl, hb1⟩
          have hcv := (hrd.kept hb1).conv (P := Try.prog) 22 9 Try.underlying22 Try.underlying5 Try.underlying9
          clear hrd h0
          go_wp2_with fail
          refine (limit_any _ _ hm).mono ?_
          rintro e w2 ⟨rfl, rfl⟩
          go_wp2_with fail
          go_ret3
          exact ⟨by rw [HG.out]; rfl, hb1⟩
      · have HG : Hid (gs l m.toNat = ([], 0, false)) := gs_no hg (by simp; omega)
        have h1 : (k : Int) ≤ l.length := by omega
        have h2 : ¬ (n : Int) ≤ (l.length : Int) - k := by omega
        go_enter Try.func38, Try.ntmps38
        go_wp2_with fail
        refine (getNum_any _ l _ h0 (by omega)).mono ?_
        rw [hg]
        rintro e w1 ⟨rfl, hb1⟩
        go_wp2_with fail
        refine (limit_any _ _ hm).mono ?_
        rintro e w2 ⟨rfl, rfl⟩
        go_wp2_with fail
        go_ret3
        exact ⟨by rw [HG.out]; rfl, hb1⟩
    · have hn' : ¬ (n : Int) ≤ (m.toNat : Int) := by omega
      have HG : Hid (gs l m.toNat = ([], 0, false)) := gs_no hg (by simp; omega)
      go_enter Try.func38, Try.ntmps38
      go_wp2_with fail
      refine (getNum_any _ l _ h0 (by omega)).mono ?_
      rw [hg]
      rintro e w1 ⟨rfl, hb1⟩
      go_wp2_with fail
      refine (limit_any _ _ hm).mono ?_
      rintro e w2 ⟨rfl, rfl⟩
      go_wp2_with fail
      go_ret3
      exact ⟨by rw [HG.out]; rfl, hb1⟩

set_option maxRecDepth 100000 in
set_option maxHeartbeats 800000 in
theorem refGetStr_pos (v : Value) (l : List UInt8) (M : Nat) (w : World) (h : Rd w v l) (hl : l.length ≤ 140737488300000) (hM : Hid (M ≤ 9223372036854775807)) :
    Calls Try.prog 49 #[v, .int .i64 (M : Int)] w fun e w' => e = .returned (.tuple #[.string ⟨(gs l M).1.toArray⟩, .int .i64 (gs l M).2.1, .bool (gs l M).2.2]) ∧ Below w.heap.size w w' := by
  have hwM : IntKind.u64.wrap (M : Int) = M := by rw [IntKind.wrap_u64]; have := hM.out; omega
  have hM0 : ¬ (M : Int) < 0 := by omega
  rcases gn_cases l with hg | ⟨n, k, hg⟩
  · have HG : Hid (gs l M = ([], 0, false)) := gs_no hg (by simp)
    have h0 := h
    obtain ⟨a, cap, rfl, -⟩ := h
    go_enter Try.func49, Try.ntmps49
    go_wp2_with fail
    refine (refGetNum_any _ l _ h0 (by omega)).mono ?_
    rw [hg]
    rintro e w1 ⟨rfl, hb1⟩
    go_wp2_with fail
    go_ret3
    exact ⟨by rw [HG.out]; rfl, hb1⟩
  · obtain ⟨hk1, hk9, hkl, -, -⟩ := gn_ok hg
    have h0 := h
    obtain ⟨a, cap, rfl, hcap, -, -, h4⟩ := h
    obtain ⟨b, off, rfl, -, -⟩ := h4 (by omega)
    clear h4
    by_cases hn : n ≤ M
    · have hn' : (n : Int) ≤ (M : Int) := by omega
      by_cases hnk : n + k ≤ l.length
      · have HG : Hid (gs l M = ((l.drop k).take n, k + n, true)) := gs_yes hg hn hnk
        have h1 : (k : Int) ≤ l.length := by omega
        have h2 : (n : Int) ≤ (l.length : Int) - k := by omega
        by_cases hck : cap = k
        · obtain rfl : n = 0 := by omega
          have hlk : l.length = k := by omega
          have hrd := (h0.drop k hkl off (.inr hlk.symm)).take 0 (by omega)
          subst hck
          have hkk : Hid (l.length = cap) := hlk
          clear hlk
          go_enter Try.func49, Try.ntmps49
          go_wp2_with fail
          refine (refGetNum_any _ l _ h0 (by omega)).mono ?_
          rw [hg]
          rintro e w1 ⟨rfl, hb1⟩
          have hcv := (hrd.kept hb1).conv (P := Try.prog) 22 9 Try.underlying22 Try.underlying5 Try.underlying9
          simp only [Nat.sub_self, List.take_zero] at hcv
          clear hrd h0
          go_wp2_with fail
          go_ret3
          refine ⟨?_, hb1⟩
          rw [HG.out]
          exact ret_str (by simp) (by simp) rfl
        · have hrd := (h0.drop k hkl (off + k) (.inl rfl)).take n (by omega)
          go_enter Try.func49, Try.ntmps49
          go_wp2_with fail
          refine (refGetNum_any _ l _ h0 (by omega)).mono ?_
          rw [hg]
          rintro e w1 ⟨rfl, hb1⟩
          have hcv := (hrd.kept hb1).conv (P := Try.prog) 22 9 Try.underlying22 Try.underlying5 Try.underlying9
          clear hrd h0
          go_wp2_with fail
          go_ret3
          exact ⟨by rw [HG.out]; rfl, hb1⟩
      · have HG : Hid (gs l M = ([], 0, false)) := gs_no hg (by simp; omega)
        have h1 : (k : Int) ≤ l.length := by omega
        have h2 : ¬ (n : Int) ≤ (l.length : Int) - k := by omega
        go_enter Try.func49, Try.ntmps49
        go_wp2_with fail
        refine (refGetNum_any _ l _ h0 (by omega)).mono ?_
        rw [hg]
        rintro e w1 ⟨rfl, hb1⟩
        go_wp2_with fail
        go_ret3
        exact ⟨by rw [HG.out]; rfl, hb1⟩
    · have hn' : ¬ (n : Int) ≤ (M : Int) := by omega
      have HG : Hid (gs l M = ([], 0, false)) := gs_no hg (by simp; omega)
      go_enter Try.func49, Try.ntmps49
      go_wp2_with fail
      refine (refGetNum_any _ l _ h0 (by omega)).mono ?_
      rw [hg]
      rintro e w1 ⟨rfl, hb1⟩
      go_wp2_with fail
      go_ret3
      exact ⟨by rw [HG.out]; rfl, hb1⟩

set_option maxRecDepth 100000 in
set_option maxHeartbeats 800000 in
theorem refGetStr_neg (v : Value) (l : List UInt8) (m : Int) (M : Nat) (w : World) (h : Rd w v l) (hl : l.length ≤ 140737488300000) (hm : m < 0) (hM : M = 0) :
    Calls Try.prog 49 #[v, .int .i64 m] w fun e w' => e = .returned (.tuple #[.string ⟨(gs l M).1.toArray⟩, .int .i64 (gs l M).2.1, .bool (gs l M).2.2]) ∧ Below w.heap.size w w' := by
  have hw0 : IntKind.u64.wrap 0 = 0 := by rw [IntKind.wrap_u64]; rfl
  subst hM
  rcases gn_cases l with hg | ⟨n, k, hg⟩
  · have HG : Hid (gs l 0 = ([], 0, false)) := gs_no hg (by simp)
    have h0 := h
    obtain ⟨a, cap, rfl, -⟩ := h
    go_enter Try.func49, Try.ntmps49
    go_wp2_with fail
    refine (refGetNum_any _ l _ h0 (by omega)).mono ?_
    rw [hg]
    rintro e w1 ⟨rfl, hb1⟩
    go_wp2_with fail
    go_ret3
    exact ⟨by rw [HG.out]; rfl, hb1⟩
  · obtain ⟨hk1, hk9, hkl, -, -⟩ := gn_ok hg
    have h0 := h
    obtain ⟨a, cap, rfl, hcap, -, -, h4⟩ := h
    obtain ⟨b, off, rfl, -, -⟩ := h4 (by omega)
    clear h4
    by_cases hn : n ≤ 0
    · have hn' : (n : Int) ≤ (0 : Int) := by omega
      by_cases hnk : n + k ≤ l.length
      · have HG : Hid (gs l 0 = ((l.drop k).take n, k + n, true)) := gs_yes hg hn hnk
        have h1 : (k : Int) ≤ l.length := by omega
        have h2 : (n : Int) ≤ (l.length : Int) - k := by omega
        by_cases hck : cap = k
        · obtain rfl : n = 0 := by omega
          have hlk : l.length = k := by omega
          have hrd := (h0.drop k hkl off (.inr hlk.symm)).take 0 (by omega)
          subst hck
          have hkk : Hid (l.length = cap) := hlk
          clear hlk
          go_enter Try.func49, Try.ntmps49
          go_wp2_with fail
          refine (refGetNum_any _ l _ h0 (by omega)).mono ?_
          rw [hg]
          rintro e w1 ⟨rfl, hb1⟩
          have hcv := (hrd.kept hb1).conv (P := Try.prog) 22 9 Try.underlying22 Try.underlying5 Try.underlying9
          simp only [Nat.sub_self, List.take_zero] at hcv
          clear hrd h0
          go_wp2_with fail
          go_ret3
          refine ⟨?_, hb1⟩
          rw [HG.out]
          exact ret_str (by simp) (by simp) rfl
        · have hrd := (h0.drop k hkl (off + k) (.inl rfl)).take n (by omega)
          go_enter Try.func49, Try.ntmps49
          go_wp2_with fail
          refine (refGetNum_any _ l _ h0 (by omega)).mono ?_
          rw [hg]
          rintro e w1 ⟨rfl, hb1⟩
          have hcv := (hrd.kept hb1).conv (P := Try.prog) 22 9 Try.underlying22 Try.underlying5 Try.underlying9
          clear hrd h0
          go_wp2_with fail
          go_ret3
          exact ⟨by rw [HG.out]; rfl, hb1⟩
      · have HG : Hid (gs l 0 = ([], 0, false)) := gs_no hg (by simp; omega)
        have h1 : (k : Int) ≤ l.length := by omega
        have h2 : ¬ (n : Int) ≤ (l.length : Int) - k := by omega
        go_enter Try.func49, Try.ntmps49
        go_wp2_with fail
        refine (refGetNum_any _ l _ h0 (by omega)).mono ?_
        rw [hg]
        rintro e w1 ⟨rfl, hb1⟩
        go_wp2_with fail
        go_ret3
        exact ⟨by rw [HG.out]; rfl, hb1⟩
    · have hn' : ¬ (n : Int) ≤ (0 : Int) := by omega
      have HG : Hid (gs l 0 = ([], 0, false)) := gs_no hg (by simp; omega)
      go_enter Try.func49, Try.ntmps49
      go_wp2_with fail
      refine (refGetNum_any _ l _ h0 (by omega)).mono ?_
      rw [hg]
      rintro e w1 ⟨rfl, hb1⟩
      go_wp2_with fail
      go_ret3
      exact ⟨by rw [HG.out]; rfl, hb1⟩

theorem refGetStr_any (v : Value) (l : List UInt8) (m : Int) (w : World) (h : Rd w v l) (hl : l.length ≤ 140737488300000) (hm : (Lit.int .i64 m).wf = true) :
    Calls Try.prog 49 #[v, .int .i64 m] w fun e w' => e = .returned (.tuple #[.string ⟨(gs l m.toNat).1.toArray⟩, .int .i64 (gs l m.toNat).2.1, .bool (gs l m.toNat).2.2]) ∧ Below w.heap.size w w' := by
  have hb := bounds_i64 hm
  by_cases h0 : m < 0
  · exact refGetStr_neg v l m m.toNat w h hl h0 (by omega)
  · obtain ⟨M, rfl⟩ : ∃ M : Nat, m = M := ⟨m.toNat, by omega⟩
    rw [Int.toNat_natCast]
    exact refGetStr_pos v l M w h hl (show M ≤ 9223372036854775807 by omega)

set_option maxRecDepth 100000 in
set_option maxHeartbeats 400000 in
theorem getFlag_any (v : Value) (l : List UInt8) (w : World) (h : Rd w v l) :
    Calls Try.prog 36 #[v] w fun e w' => e = .returned (.tuple #[.bool (gf l).1, .int .i64 (gf l).2.1, .bool (gf l).2.2]) ∧ w' = w := by
  obtain ⟨a, cap, rfl, h1, h2, h3, h4⟩ := h
  cases l with
  | nil =>
    go_enter Try.func36, Try.ntmps36
    go_wp2
    go_ret3
    exact ⟨rfl, rfl⟩
  | cons x r =>
    obtain ⟨b, off, rfl, hlt, hc⟩ := h4 (by simp)
    clear h4 h3
    have hc0 : w.cell? ⟨b, off, none⟩ = some (.int .u8 (x.toNat : Int)) := hc 0 _ rfl
    have hz : ((r.length : Int) + 1 == 0) = false := by simp; omega
    clear hc
    by_cases hx : 1 < x.toNat
    · have HG : Hid (gf (x :: r) = (false, 0, false)) := (show _ = _ by simp [gf, hx])
      have hx' : (1 : Int) < x.toNat := by omega
      generalize x.toNat = y at *
      go_enter Try.func36, Try.ntmps36
      go_wp2
      go_ret3
      exact ⟨by rw [HG.out]; rfl, rfl⟩
    · have HG : Hid (gf (x :: r) = (decide (x.toNat = 1), 1, true)) := (show _ = _ by simp [gf, hx])
      have hx' : ¬ (1 : Int) < x.toNat := by omega
      generalize x.toNat = y at *
      by_cases hy : y = 1
      · subst hy
        go_enter Try.func36, Try.ntmps36
        go_wp2
        go_ret3
        exact ⟨by rw [HG.out]; rfl, rfl⟩
      · have hy' : ((y : Int) == 1) = false := by simp; omega
        have HD : Hid (decide (y = 1) = false) := (show _ = _ by simp [hy])
        go_enter Try.func36, Try.ntmps36
        go_wp2
        go_ret3
        exact ⟨by rw [HG.out]; show _ = Ending.returned (.tuple #[.bool (decide (y = 1)), _, _]); rw [HD.out]; rfl, rfl⟩

set_option maxRecDepth 100000 in
set_option maxHeartbeats 400000 in
theorem refGetFlag_any (v : Value) (l : List UInt8) (w : World) (h : Rd w v l) :
    Calls Try.prog 48 #[v] w fun e w' => e = .returned (.tuple #[.bool (gf l).1, .int .i64 (gf l).2.1, .bool (gf l).2.2]) ∧ w' = w := by
  obtain ⟨a, cap, rfl, h1, h2, h3, h4⟩ := h
  cases l with
  | nil =>
    go_enter Try.func48, Try.ntmps48
    go_wp2
    go_ret3
    exact ⟨rfl, rfl⟩
  | cons x r =>
    obtain ⟨b, off, rfl, hlt, hc⟩ := h4 (by simp)
    clear h4 h3
    have hc0 : w.cell? ⟨b, off, none⟩ = some (.int .u8 (x.toNat : Int)) := hc 0 _ rfl
    have hz : ((r.length : Int) + 1 == 0) = false := by simp; omega
    clear hc
    by_cases hx : 1 < x.toNat
    · have HG : Hid (gf (x :: r) = (false, 0, false)) := (show _ = _ by simp [gf, hx])
      have hx' : (1 : Int) < x.toNat := by omega
      generalize x.toNat = y at *
      go_enter Try.func48, Try.ntmps48
      go_wp2
      go_ret3
      exact ⟨by rw [HG.out]; rfl, rfl⟩
    · have HG : Hid (gf (x :: r) = (decide (x.toNat = 1), 1, true)) := (show _ = _ by simp [gf, hx])
      have hx' : ¬ (1 : Int) < x.toNat := by omega
      generalize x.toNat = y at *
      by_cases hy : y = 1
      · subst hy
        go_enter Try.func48, Try.ntmps48
        go_wp2
        go_ret3
        exact ⟨by rw [HG.out]; rfl, rfl⟩
      · have hy' : ((y : Int) == 1) = false := by simp; omega
        have HD : Hid (decide (y = 1) = false) := (show _ = _ by simp [hy])
        go_enter Try.func48, Try.ntmps48
        go_wp2
        go_ret3
        exact ⟨by rw [HG.out]; show _ = Ending.returned (.tuple #[.bool (decide (y = 1)), _, _]); rw [HD.out]; rfl, rfl⟩
end Go.Proofs.Ytmicmbjbclkbjaa
