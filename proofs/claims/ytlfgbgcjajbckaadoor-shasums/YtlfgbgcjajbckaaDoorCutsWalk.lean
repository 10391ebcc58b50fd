/-
  indenturelaw03.ShaCuts: the walk: the call returns true and makes new memory alone.
-/
import Derived.Test.YtlfgbgcjajbckaaDoorLives
import Derived.Lib.QuietBelow
import Derived.BigQuiet
import Derived.Stop.BytesEq
namespace Go.Proofs.YtlfgbgcjajbckaaDoor
open Go.RowKit
/-- The first c of a slice. -/
theorem slice_upto {P : Program} (hu : P.underlying 22 = some (.slice 5)) (hsz : (P.info? 5).map (·.size) = some 1) (a : Option Addr) (n cap c : Nat) (hc : c ≤ n) (hn : n ≤ cap) :
    ∃ a', (∀ W, (Instr.sliceAt 22 (.slice a n cap) none (some (.int .i64 (c : Int))) none).run P W = .ok (.slice a' c cap) W) ∧
      (∀ w l, Rd w (.slice a n cap) l → Rd w (.slice a' c cap) (l.take c)) := by
  have hcn : (c : Int) ≤ (cap : Int) := by omega
  refine ⟨if cap = 0 then a else a.map (·.add 0), fun W => ?_, fun w l hr => ?_⟩
  · cases hq : P.info? 5 with
    | none => simp [hq] at hsz
    | some i => simp [Instr.sliceAt, Instr.slice, run_underlying hu, Instr.sliceBounds, run_sliceBound, hcn, sizeOf, typeInfo, hq]
  · have h0 := hr.take c (by exact hc)
    obtain ⟨a0, cap0, e, h1, h2, h3, h4⟩ := h0
    simp only [Value.slice.injEq] at e
    obtain ⟨rfl, hcl, rfl⟩ := e
    refine ⟨if cap = 0 then a else a.map (·.add 0), cap, by rw [← hcl], h1, h2, fun h => ?_, fun hp => ?_⟩
    · by_cases hcc : cap = 0
      · exact hcc
      · rw [if_neg hcc] at h
        exact h3 (by simpa using h)
    · obtain ⟨b, off, rfl, hlt, hcell⟩ := h4 hp
      rw [if_neg (by omega)]
      exact ⟨b, off, by simp [Addr.add_mid], hlt, hcell⟩

theorem size5w : ∀ w, (sizeOf 5).run Tryd.prog w = .ok 1 w := fun w => by
  cases hq : Tryd.prog.info? 5 with
  | none => have := Tryd.size5; simp [hq] at this
  | some i =>
    have : i.size = 1 := by have := Tryd.size5; simpa [hq] using this
    simp [sizeOf, typeInfo, hq, this]
theorem eq25 (X Y : List UInt8) (hX : X.length = 32) (hY : Y.length = 32) (W : World) : (Op.equalIn 10000 25 (.agg (By X).toArray) (.agg (By Y).toArray)).run Tryd.prog W = .ok (X == Y) W :=
  run_equalIn_bytes W 9998 25 5 32 Tryd.underlying25 Tryd.underlying5 size5w X Y hX hY

set_option maxHeartbeats 1000000 in
set_option maxRecDepth 100000 in
theorem shaCuts_any (v : Value) (l : List UInt8) (n : Nat) (ask : Bool) (w : World) (hT : Tabs w) (hr : Rd w v l) (hn : Hid (n < 256 ^ 8)) :
    Calls Tryd.prog 7 #[v, .int .u64 (n : Int), .bool ask] w fun e w' => e = .returned (.bool true) ∧ Below w.heap.size w w' := by
  have HT : Hid (Tabs w) := hT
  have HR : Hid (Rd w v l) := hr
  obtain ⟨a, cap, rfl, h1, h2, h3, h4⟩ := hr
  clear hT h3 h4
  by_cases hbig : 1200 < l.length
  · have q1 : (1200 : Int) < (l.length : Int) := by omega
    go_enter Tryd.func7, Tryd.ntmps7
    go_wp2_with fail
    refine (lives_any w HT.out).mono ?_
    rintro e w1 ⟨rfl, hb1⟩
    go_wp2
    go_ret
    exact ⟨rfl, hb1⟩
  · have q1 : ¬ (1200 : Int) < (l.length : Int) := by omega
    obtain ⟨k, HK⟩ : ∃ k, Hid (n % (l.length + 1) = k) := ⟨_, rfl⟩
    have hk : k ≤ l.length := by have := Nat.mod_lt n (show 0 < l.length + 1 by omega); have := HK.out; omega
    have hn' : n < 18446744073709551616 := hn.out
    have e1 : (n : Int) % ((l.length : Int) + 1) = (k : Int) := by rw [← HK.out]; exact (Int.natCast_emod _ _).symm
    obtain ⟨a1, hs1, R1⟩ := slice_upto Tryd.underlying22 Tryd.size5 a l.length cap k hk h1
    have HR1 : Hid (Rd w (.slice a1 k cap) (l.take k)) := R1 w l HR.out
    obtain ⟨a2, hs2, R2, R3⟩ := slice_from Tryd.underlying22 Tryd.size5 a l.length cap k hk h1
    have HR2 : Hid (Rd w (.slice a2 (l.length - k) (cap - k)) (l.drop k)) := R2 w l HR.out
    clear R1 R2 R3
    go_enter Tryd.func7, Tryd.ntmps7
    go_wp2_with fail
    refine (new_any w HT.out).mono ?_
    rintro e w1 ⟨bs, rfl, hbs, hst, hb1⟩
    have S1 : Hid (Stt w1 bs []) := hst
    have L1 : Hid (Below w.heap.size w w1) := hb1
    have HbS : Hid (w.heap.size ≤ bs) := hbs
    clear hst hb1 hbs
    have h2b : 2 ≤ bs := by have := HT.out.size; have := HbS.out; omega
    have hlk : (l.take k).length = k := by rw [List.length_take]; omega
    go_wp2_with fail
    refine (write_any _ (l.take k) [] bs (by rw [hlk]; simp; omega) h2b w1 (HT.out.gr L1.out) S1.out (HR1.out.kept L1.out) (rd_off HR1.out HbS.out)).mono ?_
    rintro e w2 ⟨rfl, hu2, hst⟩
    rw [List.nil_append] at hst
    have S2 : Hid (Stt w2 bs (l.take k)) := hst
    have L2 : Hid (Below w.heap.size w w2) := L1.out.trans (hu2.below HbS.out L1.out.size)
    clear hst hu2 S1 L1
    obtain ⟨X, HX⟩ : ∃ X, Hid (sha (l.take k) = X) := ⟨_, rfl⟩
    have hX32 : X.length = 32 := by rw [← HX.out]; exact sha_length _
    have e2 := eq25 X X hX32 hX32
    have cS : ∀ d os, Calls Tryd.prog 18 #[.pointer (some ⟨bs, 0, none⟩)] (Go.Sort.grow (redrawn w2 d) os) fun e w'' => e = .returned (.agg (By X).toArray) ∧ ∃ p : Regrown, w'' = Go.Sort.grow (redrawn w2 p.d) p.os := fun d os => Calls.regrown_of (by
      rw [← HX.out]; exact stSum_any (l.take k) bs (by rw [hlk]; omega) _ ((HT.out.gr L2.out).gr (below_regrown w2 d os)) (S2.out.kept (below_regrown w2 d os)))
    have cT : ∀ d os, Calls Tryd.prog 10 #[.slice a1 k cap] (Go.Sort.grow (redrawn w2 d) os) fun e w'' => e = .returned (.agg (By X).toArray) ∧ ∃ p : Regrown, w'' = Go.Sort.grow (redrawn w2 p.d) p.os := fun d os => Calls.regrown_of (by
      rw [← HX.out]; exact sum_any _ (l.take k) (by rw [hlk]; omega) _ ((HT.out.gr L2.out).gr (below_regrown w2 d os)) ((HR1.out.kept L2.out).kept (below_regrown w2 d os)))
    cases ask
    · go_wp2_with fail
      refine wp_region_quiet_below Tryd.mixed (by kernel_rfl) ?_
      repeat (go_big_quiet_step (first | exact cS _ _ | exact cT _ _))
      refine wpQuiet_nil ?_
      intro w3 hw3
      have L23 : Hid (Below w2.heap.size w2 w3) := (show Below _ _ _ by obtain ⟨⟨dq, osq⟩, rfl⟩ := hw3; exact below_regrown w2 dq osq)
      have S3 : Hid (Stt w3 bs (l.take k)) := S2.out.kept L23.out
      have L3 : Hid (Below w.heap.size w w3) := L2.out.trans (L23.out.mono L2.out.size)
      clear hw3 cS cT L23 S2 L2 e2
      go_wp2_with fail
      refine (write_any _ (l.drop k) (l.take k) bs (by rw [hlk, List.length_drop]; omega) h2b w3 (HT.out.gr L3.out) S3.out (HR2.out.kept L3.out) (rd_off HR2.out HbS.out)).mono ?_
      rintro e w4 ⟨rfl, hu4, hst⟩
      rw [List.take_append_drop] at hst
      have S4 : Hid (Stt w4 bs l) := hst
      have L4 : Hid (Below w.heap.size w w4) := L3.out.trans (hu4.below HbS.out L3.out.size)
      clear hst hu4 S3 L3
      obtain ⟨Y, HY⟩ : ∃ Y, Hid (sha l = Y) := ⟨_, rfl⟩
      have hY32 : Y.length = 32 := by rw [← HY.out]; exact sha_length _
      have e3 := eq25 Y Y hY32 hY32
      go_wp2_with fail
      refine (stSum_any l bs (by omega) w4 (HT.out.gr L4.out) S4.out).mono ?_
      rintro e w5 ⟨rfl, hb5⟩
      have S5 : Hid (Stt w5 bs l) := S4.out.kept hb5
      have L5 : Hid (Below w.heap.size w w5) := L4.out.trans (hb5.mono L4.out.size)
      clear hb5 S4 L4
      rw [HY.out]
      go_wp2_with fail
      refine (sum_any _ l (by omega) w5 (HT.out.gr L5.out) (HR.out.kept L5.out)).mono ?_
      rintro e w6 ⟨rfl, hb6⟩
      have S6 : Hid (Stt w6 bs l) := S5.out.kept hb6
      have L6 : Hid (Below w.heap.size w w6) := L5.out.trans (hb6.mono L5.out.size)
      clear hb6 S5 L5
      rw [HY.out]
      go_wp2_with fail
      refine (len_any l bs (by omega) w6 S6.out).mono ?_
      rintro e w7 ⟨rfl, hw⟩; subst hw
      go_wp2_with fail
      refine (lives_any w7 (HT.out.gr L6.out)).mono ?_
      rintro e w8 ⟨rfl, hb8⟩
      have L8 : Hid (Below w.heap.size w w8) := L6.out.trans (hb8.mono L6.out.size)
      clear hb8
      go_wp2
      go_ret
      exact ⟨rfl, L8.out⟩
    · go_wp2_with fail
      refine wp_region_quiet_below Tryd.mixed (by kernel_rfl) ?_
      repeat (go_big_quiet_step (first | exact cS _ _ | exact cT _ _))
      refine wpQuiet_nil ?_
      intro w3 hw3
      have L23 : Hid (Below w2.heap.size w2 w3) := (show Below _ _ _ by obtain ⟨⟨dq, osq⟩, rfl⟩ := hw3; exact below_regrown w2 dq osq)
      have S3 : Hid (Stt w3 bs (l.take k)) := S2.out.kept L23.out
      have L3 : Hid (Below w.heap.size w w3) := L2.out.trans (L23.out.mono L2.out.size)
      clear hw3 cS cT L23 S2 L2 e2
      go_wp2_with fail
      refine (write_any _ (l.drop k) (l.take k) bs (by rw [hlk, List.length_drop]; omega) h2b w3 (HT.out.gr L3.out) S3.out (HR2.out.kept L3.out) (rd_off HR2.out HbS.out)).mono ?_
      rintro e w4 ⟨rfl, hu4, hst⟩
      rw [List.take_append_drop] at hst
      have S4 : Hid (Stt w4 bs l) := hst
      have L4 : Hid (Below w.heap.size w w4) := L3.out.trans (hu4.below HbS.out L3.out.size)
      clear hst hu4 S3 L3
      obtain ⟨Y, HY⟩ : ∃ Y, Hid (sha l = Y) := ⟨_, rfl⟩
      have hY32 : Y.length = 32 := by rw [← HY.out]; exact sha_length _
      have e3 := eq25 Y Y hY32 hY32
      go_wp2_with fail
      refine (stSum_any l bs (by omega) w4 (HT.out.gr L4.out) S4.out).mono ?_
      rintro e w5 ⟨rfl, hb5⟩
      have S5 : Hid (Stt w5 bs l) := S4.out.kept hb5
      have L5 : Hid (Below w.heap.size w w5) := L4.out.trans (hb5.mono L4.out.size)
      clear hb5 S4 L4
      rw [HY.out]
      go_wp2_with fail
      refine (sum_any _ l (by omega) w5 (HT.out.gr L5.out) (HR.out.kept L5.out)).mono ?_
      rintro e w6 ⟨rfl, hb6⟩
      have S6 : Hid (Stt w6 bs l) := S5.out.kept hb6
      have L6 : Hid (Below w.heap.size w w6) := L5.out.trans (hb6.mono L5.out.size)
      clear hb6 S5 L5
      rw [HY.out]
      go_wp2_with fail
      refine (len_any l bs (by omega) w6 S6.out).mono ?_
      rintro e w7 ⟨rfl, hw⟩; subst hw
      go_wp2_with fail
      refine (lives_any w7 (HT.out.gr L6.out)).mono ?_
      rintro e w8 ⟨rfl, hb8⟩
      have L8 : Hid (Below w.heap.size w w8) := L6.out.trans (hb8.mono L6.out.size)
      clear hb8
      go_wp2
      go_ret
      exact ⟨rfl, L8.out⟩
end Go.Proofs.YtlfgbgcjajbckaaDoor
