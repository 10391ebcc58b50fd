/-
  pack.limit, pack.GetStr, pack.GetFlag, indentureref01.GetStr, indentureref01.GetFlag: what the calls do.
-/
import Derived.Test.YtcfakmjkbgcbhabRefGet
import Derived.Test.YtcfakmjkbgcbhabArgs
namespace Go.Proofs.Ytcfakmjkbgcbhab
open Go.RowKit

theorem ret_int {k : IntKind} {a b : Int} (h : a = b) : Ending.returned (.int k a) = .returned (.int k b) := by rw [h]

theorem limit_any (m : Int) (w : World) (h : (Lit.int .i64 m).wf = true) : Calls Try.prog 13 #[.int .i64 m] w fun e w' => e = .returned (.int .u64 (m.toNat : Int)) ∧ w' = w := by
  have hb := bounds_i64 h
  have HB : Hid (m ≤ 9223372036854775807) := hb.2
  clear hb h
  go_enter Try.func13, Try.ntmps13
  go_wp2
  · go_ret
    exact ⟨ret_int (by rw [IntKind.wrap_u64]; omega), rfl⟩
  · go_ret
    exact ⟨ret_int (by rw [IntKind.wrap_u64]; have := HB.out; omega), rfl⟩

theorem ret_str {s t : List UInt8} {c d : Int} {x y : Bool} (h1 : s = t) (h2 : c = d) (h3 : x = y) : Ending.returned (.tuple #[.string ⟨s.toArray⟩, .int .i64 c, .bool x]) = .returned (.tuple #[.string ⟨t.toArray⟩, .int .i64 d, .bool y]) := by
  rw [h1, h2, h3]

set_option maxRecDepth 100000 in
set_option maxHeartbeats 400000 in
theorem getStr_any (v : Value) (l : List UInt8) (m : Int) (w : World) (h : Rd w v l) (hl : l.length ≤ 140737488300000) (hm : (Lit.int .i64 m).wf = true) :
    Calls Try.prog 6 #[v, .int .i64 m] w fun e w' => e = .returned (.tuple #[.string ⟨(gs l m.toNat).1.toArray⟩, .int .i64 (gs l m.toNat).2.1, .bool (gs l m.toNat).2.2]) ∧ Below w.heap.size w w' := by
  rcases gn_cases l with hg | ⟨n, k, hg⟩
  · have HG : Hid (gs l m.toNat = ([], 0, false)) := gs_no hg (by simp)
    have h0 := h
    obtain ⟨a, cap, rfl, -⟩ := h
    go_enter Try.func6, Try.ntmps6
    go_wp2_with fail
    refine (getNum_any _ l _ h0 (by omega)).mono ?_
    rw [hg]
    rintro e w1 ⟨rfl, hb1⟩
    go_wp2_with fail
    go_ret3
    exact ⟨by rw [HG.out]; rfl, hb1⟩
  · obtain ⟨hk1, hk9, hkl, hn8, -⟩ := gn_ok hg
    have Hn8 : Hid (n < 256 ^ 8) := hn8
    clear hn8
    have h0 := h
    obtain ⟨a, cap, rfl, hcap, -, -, h4⟩ := h
    obtain ⟨b, off, rfl, -, -⟩ := h4 (by omega)
    clear h4
    by_cases hn : n ≤ m.toNat
    · have hn' : (n : Int) ≤ (m.toNat : Int) := by omega
      by_cases hnk : n + k ≤ l.length
      · have HG : Hid (gs l m.toNat = ((l.drop k).take n, k + n, true)) := gs_yes hg hn hnk
        have h1 : (k : Int) ≤ l.length := by omega
        have h2 : (n : Int) ≤ (l.length : Int) - k := by omega
        have hk' : Hid (k ≤ l.length) := hkl
        by_cases hck : cap = k
        · obtain rfl : n = 0 := by omega
          have hlk : l.length = k := by omega
          have hrd := (h0.drop k hkl off (.inr hlk.symm)).take 0 (by omega)
          subst hck
          have hkk : Hid (l.length = cap) := hlk
          clear hlk
          go_enter Try.func6, Try.ntmps6
          go_wp2_with fail
          refine (getNum_any _ l _ h0 (by omega)).mono ?_
          rw [hg]
          rintro e w1 ⟨rfl, hb1⟩
          have hcv := (hrd.kept hb1).conv (P := Try.prog) 22 9 Try.underlying22 Try.underlying5 Try.underlying9
          simp only [Nat.sub_self, List.take_zero] at hcv
          clear hrd h0
          go_wp2_with fail
          refine (limit_any _ _ hm).mono ?_
          rintro e w2 ⟨rfl, rfl⟩
          go_wp2_with fail
          go_ret3
          refine ⟨?_, hb1⟩
          rw [HG.out]
          exact ret_str (by simp) (by simp) rfl
        · have hrd := (h0.drop k hkl (off + k) (.inl rfl)).take n (by omega)
          go_enter Try.func6, Try.ntmps6
          go_wp2_with fail
          refine (getNum_any _ l _ h0 (by omega)).mono ?_
          rw [hg]
          rintro e w1 ⟨rfl, hb1⟩
          have hcv := (hrd.kept hb1).conv (P := Try.prog) 22 9 Try.underlying22 Try.underlying5 Try.underlying9
          clear hrd h0
          go_wp2_with fail
          refine (limit_any _ _ hm).mono ?_
          rintro e w2 ⟨rfl, rfl⟩
          go_wp2_with fail
          go_ret3
          exact ⟨by rw [HG.out]; rfl, hb1⟩
      · have HG : Hid (gs l m.toNat = ([], 0, false)) := gs_no hg (by simp; omega)
        have h1 : (k : Int) ≤ l.length := by omega
        have h2 : ¬ (n : Int) ≤ (l.length : Int) - k := by omega
        go_enter Try.func6, Try.ntmps6
        go_wp2_with fail
        refine (getNum_any _ l _ h0 (by omega)).mono ?_
        rw [hg]
        rintro e w1 ⟨rfl, hb1⟩
        go_wp2_with fail
        refine (limit_any _ _ hm).mono ?_
        rintro e w2 ⟨rfl, rfl⟩
        go_wp2_with fail
        go_ret3
        exact ⟨by rw [HG.out]; rfl, hb1⟩
    · have hn' : ¬ (n : Int) ≤ (m.toNat : Int) := by omega
      have HG : Hid (gs l m.toNat = ([], 0, false)) := gs_no hg (by simp; omega)
      go_enter Try.func6, Try.ntmps6
      go_wp2_with fail
      refine (getNum_any _ l _ h0 (by omega)).mono ?_
      rw [hg]
      rintro e w1 ⟨rfl, hb1⟩
      go_wp2_with fail
      refine (limit_any _ _ hm).mono ?_
      rintro e w2 ⟨rfl, rfl⟩
      go_wp2_with fail
      go_ret3
      exact ⟨by rw [HG.out]; rfl, hb1⟩

#print axioms getStr_any
end Go.Proofs.Ytcfakmjkbgcbhab
