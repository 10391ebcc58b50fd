/-
  indenturelaw01.PackLists: the walk: the call returns true and makes new memory alone.
-/
import Derived.Test.YtcfakmjkbgcbhaaLives
import Derived.Test.YtcfakmjkbgcbhaaRegion
import Derived.Test.YtcfakmjkbgcbhaaSame
import Derived.Test.YtcfakmjkbgcbhaaMixed
namespace Go.Proofs.Ytcfakmjkbgcbhaa
open Go.RowKit

theorem encS_len (s : ByteArray) : (encS (sl s)).length ≤ 9 + s.size := by
  have := enc_length (sl s).length
  simp only [encS, List.length_append, sl_length] at *
  omega
theorem encT_len : ∀ ss : List ByteArray, (encT (sls ss)).length ≤ 9 * ss.length + sumS ss
  | [] => by simp [sls, encT]
  | s :: r => by
    have h1 := encT_len r
    have h2 := encS_len s
    have h3 : sumS (s :: r) = s.size + sumS r := by
      have := sumS_append [s] r
      simpa [sumS] using this
    simp only [sls, List.map_cons, encT, List.length_append, List.length_cons] at *
    omega
theorem lightB_spec {ss : List ByteArray} (h : lightB ss = true) : ss.length ≤ 300 ∧ ss.length + sumS ss ≤ 4000 := by
  simpa [lightB] using h

/-- Texts as strings. -/
def toS (ts : List (List UInt8)) : List ByteArray := ts.map fun t => ⟨t.toArray⟩
theorem toS_length (ts : List (List UInt8)) : (toS ts).length = ts.length := by simp [toS]
theorem OwnS.rdS {w : World} {B : Nat} {v : Value} {ts : List (List UInt8)} (h : OwnS w B v ts) : RdS w v (toS ts) := by
  have hc := h
  obtain ⟨h1, h2⟩ := h
  rcases h2 with ⟨rfl, hn⟩ | ⟨g, cap, cur, rfl, hg, hh, hnc, hcm, hcs, htk⟩
  · have : ts = [] := List.eq_nil_of_length_eq_zero hn
    subst this
    exact RdS_nil w
  · refine ⟨some ⟨g, 0, none⟩, cap, by rw [toS_length], by rw [toS_length]; exact hnc, hcm, fun h => by simp at h, fun _ => ⟨g, 0, rfl, ?_, fun j hj => ?_⟩⟩
    · exact (Array.getElem?_eq_some_iff.1 hh).1
    · rw [toS_length] at hj
      have := World.ownsRow.cells hc (g := g) rfl j (.string ⟨ts[j].toArray⟩) (by simp [hj])
      simpa [Addr.add_lit, toS] using this

theorem gL_len {l : List UInt8} {c m x : Nat} {ok : Bool} {ts : List (List UInt8)} (h : gL l c m = (ts, x, ok)) : ts.length ≤ l.length ∧ x ≤ l.length := by
  unfold gL at h
  rcases gn_cases l with hg | ⟨n, k, hg⟩
  · rw [hg] at h
    simp at h
    obtain ⟨rfl, rfl, -⟩ := h
    simp
  · obtain ⟨hk1, hk9, hkl, -, -⟩ := gn_ok hg
    rw [hg] at h
    simp only [true_and] at h
    split at h
    · cases hgl : gl l m k n with
      | none => rw [hgl] at h; simp at h; obtain ⟨rfl, rfl, -⟩ := h; simp
      | some q =>
        obtain ⟨us, y⟩ := q
        rw [hgl] at h
        simp at h
        obtain ⟨rfl, rfl, -⟩ := h
        obtain ⟨h1, h2, h3, h4, -, -⟩ := gl_ok hkl hk1 hgl
        omega
    · simp at h
      obtain ⟨rfl, rfl, -⟩ := h
      simp

set_option maxRecDepth 100000 in
set_option maxHeartbeats 2000000 in
theorem packLists_core (v u : Value) (l : List UInt8) (ss : List ByteArray) (c m : Int) (w : World) (hr : Rd w v l) (hu : RdS w u ss) (hsz : ∀ s ∈ ss, s.size ≤ 140737488351232) (hc : (Lit.int .i64 c).wf = true) (hm : (Lit.int .i64 m).wf = true) :
    Calls Try.prog 5 #[v, u, .agg #[.int .i64 c, .int .i64 m]] w fun e w' => e = .returned (.bool true) ∧ Below w.heap.size w w' := by
  have hr0 := hr
  have hu0 := hu
  obtain ⟨a, cap, rfl, -⟩ := hr
  obtain ⟨a2, cap2, rfl, -⟩ := hu
  have hb0 : Below w.heap.size w (w.alloc (.cells #[.int .i64 c, .int .i64 m] 37 (0, 0))) := (Below.refl _ _).alloc (Nat.le_refl _) _
  by_cases hl : 3000 < l.length
  · have hl' : (3000 : Int) < l.length := by omega
    go_enter Try.func5, Try.ntmps5
    go_wp2_with fail
    refine (lives_any _).mono ?_
    rintro e w1 ⟨rfl, hb1⟩
    go_wp2_with fail
    go_ret
    exact ⟨rfl, hb0.trans (hb1.mono hb0.size)⟩
  · have hl' : ¬ (3000 : Int) < l.length := by omega
    cases hlb : lightB ss with
    | false =>
      have HLB : Hid (lightB ss = false) := hlb
      clear hlb
      go_enter Try.func5, Try.ntmps5
      go_wp2_with fail
      refine (light_k _ ss _ false HLB (hu0.kept hb0) hsz).mono ?_
      rintro e w1 ⟨rfl, rfl⟩
      go_wp2_with fail
      refine (lives_any _).mono ?_
      rintro e w1 ⟨rfl, hb1⟩
      go_wp2_with fail
      go_ret
      exact ⟨rfl, hb0.trans (hb1.mono hb0.size)⟩
    | true =>
      have HLB : Hid (lightB ss = true) := hlb
      obtain ⟨hs1, hs2⟩ := lightB_spec hlb
      have hel := encT_len ss
      clear hlb
      go_enter Try.func5, Try.ntmps5
      go_wp2_with fail
      refine (light_k _ ss _ true HLB (hu0.kept hb0) hsz).mono ?_
      rintro e w1 ⟨rfl, rfl⟩
      go_wp2_with fail
      refine (getList_any _ l c m _ (hr0.kept hb0) (by omega) hc hm).mono ?_
      rintro e w1 ⟨vx, ts, X, Z, rfl, ho1, hgL, hb1⟩
      have hb01 : Below w.heap.size w w1 := hb0.trans (hb1.mono hb0.size)
      have hc1 : w1.cell? ⟨w.heap.size, 0, none⟩ = some (.int .i64 c) := (hb1.cell (p := ⟨w.heap.size, 0, none⟩) (by simp)).trans (cell_of_row _ _ 0 _ 37 (0, 0) (heap_alloc_new w _))
      have hc2 : w1.cell? ⟨w.heap.size, 1, none⟩ = some (.int .i64 m) := (hb1.cell (p := ⟨w.heap.size, 1, none⟩) (by simp)).trans (cell_of_row _ _ 1 _ 37 (0, 0) (heap_alloc_new w _))
      obtain ⟨htl, -⟩ := gL_len hgL
      have HGL : Hid (gL l c.toNat m.toNat = (ts, X, Z)) := hgL
      clear hgL hb1 HLB
      go_wp2_with fail
      refine (refGetList_any _ l c m _ (hr0.kept hb01) (by omega) hc hm).mono ?_
      rintro e w2 ⟨vy, ts2, X2, Z2, rfl, ho2, hgL2, hb2⟩
      have heq := HGL.out.symm.trans hgL2
      simp only [Prod.mk.injEq] at heq
      obtain ⟨rfl, rfl, rfl⟩ := heq
      have hbw : Below w.heap.size w w2 := hb01.trans (hb2.mono hb01.size)
      have hr2 := hr0.kept hbw
      have hu2 := hu0.kept hbw
      have hx2 : RdS w2 vx (toS ts) := (ho1.kept hb2).rdS
      have hy2 : RdS w2 vy (toS ts) := ho2.rdS
      have htl2 := toS_length ts
      clear hgL2 hc1 hc2 hb2 hb01 ho1 ho2 hr0 hu0 HGL
      go_wp2_with fail
      refine wp_region_inv Try.mixed (SV (fun i => match i with
          | 0 | 4 => .slice a l.length cap
          | 1 | 5 => .slice a2 ss.length cap2
          | 3 | 7 => .string ⟨(l ++ encL (sls ss)).toArray⟩
          | 10 => vx
          | 11 => vy
          | 15 | 16 => .int .i64 (X : Int)
          | 20 | 21 => .bool Z
          | _ => .bool true) (fun i => match i with
          | 2 | 6 => some (l ++ encL (sls ss))
          | _ => none)) 69 rfl (by decide +kernel) (SV_mono _ _) ?_ ?_
      · refine AllFrom.cons (fun a' w' hg hk hd => ?_) (AllFrom.cons (fun a' w' hg hk hd => ?_) (AllFrom.cons (fun a' w' hg hk hd => ?_) (AllFrom.cons (fun a' w' hg hk hd => ?_) (AllFrom.cons (fun a' w' hg hk hd => ?_) (AllFrom.cons (fun a' w' hg hk hd => ?_) (AllFrom.cons (fun a' w' hg hk hd => ?_) (AllFrom.cons (fun a' w' hg hk hd => ?_) (AllFrom.cons (fun a' w' hg hk hd => ?_) (AllFrom.cons (fun a' w' hg hk hd => ?_) (AllFrom.cons (fun a' w' hg hk hd => ?_) (AllFrom.cons (fun a' w' hg hk hd => ?_) (AllFrom.cons (fun a' w' hg hk hd => ?_) (AllFrom.cons (fun a' w' hg hk hd => ?_) (AllFrom.cons (fun a' w' hg hk hd => ?_) (AllFrom.cons (fun a' w' hg hk hd => ?_) (AllFrom.cons (fun a' w' hg hk hd => ?_) (AllFrom.cons (fun a' w' hg hk hd => ?_) (AllFrom.cons (fun a' w' hg hk hd => ?_) (AllFrom.cons (fun a' w' hg hk hd => ?_) (AllFrom.cons (fun a' w' hg hk hd => ?_) (AllFrom.cons (fun a' w' hg hk hd => ?_) (AllFrom.cons (fun a' w' hg hk hd => ?_) (AllFrom.cons (fun a' w' hg hk hd => ?_) (AllFrom.cons (fun a' w' hg hk hd => ?_) (AllFrom.cons (fun a' w' hg hk hd => ?_) (AllFrom.cons (fun a' w' hg hk hd => ?_) (AllFrom.cons (fun a' w' hg hk hd => ?_) AllFrom.nil)))))))))))))))))))))))))))
        · -- 0: Op.move (Operand.tmp 0)
          intro Q
          have e0 := hk.at 0 (by decide +kernel)
          exact wp_value _ (by simp only [execOp, e0]; rfl) (SV_mk rfl rfl)
        · -- 1: Op.move (Operand.tmp 1)
          intro Q
          have e1 := hk.at 1 (by decide +kernel)
          exact wp_value _ (by simp only [execOp, e1]; rfl) (SV_mk rfl rfl)
        · -- 2: Op.call ( callee := Callee.value (Operand.func 25), args := 
          intro Q
          have xe42 := SV_val (hd.val 0 42 (by decide +kernel)) rfl
          have e42 : a'.eval (.tmp 42) = .slice a l.length cap := xe42
          have xe43 := SV_val (hd.val 1 43 (by decide +kernel)) rfl
          have e43 : a'.eval (.tmp 43) = .slice a2 ss.length cap2 := xe43
          refine wp_call 25 _ (run_enter 25 _ _ rfl (by kernel_rfl)) ?_
          simp only [List.map_toArray, List.map_nil, List.map_cons, e42, e43]
          refine (list_any _ _ l ss _ (hr2.kept hg) (hu2.kept hg) (by omega)).mono ?_
          rintro e w5 ⟨v5, rfl, ho5, hb5⟩
          exact ⟨v5, rfl, SV_mko rfl _ ho5, hb5⟩
        · -- 3: Op.convert 22 9 (Operand.tmp 44)
          intro Q
          obtain ⟨B2, e44⟩ := SV_own (hd.val 2 44 (by decide +kernel)) rfl
          exact wp_value _ (by simp [execOp, own_conv e44 rfl]) (SV_mk rfl rfl)
        · -- 4: Op.move (Operand.tmp 0)
          intro Q
          have e0 := hk.at 0 (by decide +kernel)
          exact wp_value _ (by simp only [execOp, e0]; rfl) (SV_mk rfl rfl)
        · -- 5: Op.move (Operand.tmp 1)
          intro Q
          have e1 := hk.at 1 (by decide +kernel)
          exact wp_value _ (by simp only [execOp, e1]; rfl) (SV_mk rfl rfl)
        · -- 6: Op.call ( callee := Callee.value (Operand.func 26), args := 
          intro Q
          have xe46 := SV_val (hd.val 4 46 (by decide +kernel)) rfl
          have e46 : a'.eval (.tmp 46) = .slice a l.length cap := xe46
          have xe47 := SV_val (hd.val 5 47 (by decide +kernel)) rfl
          have e47 : a'.eval (.tmp 47) = .slice a2 ss.length cap2 := xe47
          refine wp_call 26 _ (run_enter 26 _ _ rfl (by kernel_rfl)) ?_
          simp only [List.map_toArray, List.map_nil, List.map_cons, e46, e47]
          refine (refList_any _ _ l ss _ (hr2.kept hg) (hu2.kept hg) (by omega)).mono ?_
          rintro e w5 ⟨v5, rfl, ho5, hb5⟩
          exact ⟨v5, rfl, SV_mko rfl _ ho5, hb5⟩
        · -- 7: Op.convert 22 9 (Operand.tmp 48)
          intro Q
          obtain ⟨B6, e48⟩ := SV_own (hd.val 6 48 (by decide +kernel)) rfl
          exact wp_value _ (by simp [execOp, own_conv e48 rfl]) (SV_mk rfl rfl)
        · -- 8: Op.binOp BinOp.eql 9 (Operand.tmp 45) (Operand.tmp 49) 9
          intro Q
          have xe45 := SV_val (hd.val 3 45 (by decide +kernel)) rfl
          have e45 : a'.eval (.tmp 45) = .string ⟨(l ++ encL (sls ss)).toArray⟩ := xe45
          have xe49 := SV_val (hd.val 7 49 (by decide +kernel)) rfl
          have e49 : a'.eval (.tmp 49) = .string ⟨(l ++ encL (sls ss)).toArray⟩ := xe49
          clear hd hk xe45 xe49
          exact wp_value (.bool true) (by simp only [execOp, e45, e49]; go_simp) (SV_mk rfl rfl)
        · -- 9: Op.move (Operand.tmp 50)
          intro Q
          have xe50 := SV_val (hd.val 8 50 (by decide +kernel)) rfl
          have e50 : a'.eval (.tmp 50) = .bool true := xe50
          exact wp_value _ (by simp only [execOp, e50]; rfl) (SV_mk rfl rfl)
        · -- 10: Op.move (Operand.tmp 7)
          have eg : a'.eval (.tmp 51) = .bool true := SV_val (hd.val 9 51 (by decide +kernel)) rfl
          refine ⟨51, true, rfl, eg, fun _ Q => ?_, fun h => absurd rfl h⟩
          have e7 := hk.at 7 (by decide +kernel)
          exact wp_value _ (by simp only [execOp, e7]; rfl) (SV_mk rfl rfl)
        · -- 11: Op.move (Operand.tmp 10)
          have eg : a'.eval (.tmp 51) = .bool true := SV_val (hd.val 9 51 (by decide +kernel)) rfl
          refine ⟨51, true, rfl, eg, fun _ Q => ?_, fun h => absurd rfl h⟩
          have e10 := hk.at 10 (by decide +kernel)
          exact wp_value _ (by simp only [execOp, e10]; rfl) (SV_mk rfl rfl)
        · -- 12: Op.call ( callee := Callee.value (Operand.func 27), args := 
          have eg : a'.eval (.tmp 51) = .bool true := SV_val (hd.val 9 51 (by decide +kernel)) rfl
          refine ⟨51, true, rfl, eg, fun _ Q => ?_, fun h => absurd rfl h⟩
          have xe52 := SV_val (hd.val 10 52 (by decide +kernel)) rfl
          have e52 : a'.eval (.tmp 52) = vx := xe52
          have xe53 := SV_val (hd.val 11 53 (by decide +kernel)) rfl
          have e53 : a'.eval (.tmp 53) = vy := xe53
          refine wp_call 27 _ (run_enter 27 _ _ rfl (by kernel_rfl)) ?_
          simp only [List.map_toArray, List.map_nil, List.map_cons, e52, e53]
          refine (same_any _ _ _ _ _ (hx2.kept hg) (hy2.kept hg) (by omega) (by omega)).mono ?_
          rintro e w5 ⟨rfl, nq, rfl⟩
          exact ⟨_, rfl, SV_mk rfl (by simp), below_drewN _ _ _⟩
        · -- 13: Op.pick (Operand.tmp 51) (Operand.tmp 54) (Operand.const (Va
          intro Q
          have xe51 := SV_val (hd.val 9 51 (by decide +kernel)) rfl
          have e51 : a'.eval (.tmp 51) = .bool true := xe51
          have xe54 := SV_val (hd.val 12 54 (by decide +kernel)) rfl
          have e54 : a'.eval (.tmp 54) = .bool true := xe54
          clear hd hk xe51 xe54
          exact wp_value (.bool true) (by simp only [execOp, e51, e54]; go_simp) (SV_mk rfl rfl)
        · -- 14: Op.move (Operand.tmp 55)
          intro Q
          have xe55 := SV_val (hd.val 13 55 (by decide +kernel)) rfl
          have e55 : a'.eval (.tmp 55) = .bool true := xe55
          exact wp_value _ (by simp only [execOp, e55]; rfl) (SV_mk rfl rfl)
        · -- 15: Op.move (Operand.tmp 8)
          have eg : a'.eval (.tmp 56) = .bool true := SV_val (hd.val 14 56 (by decide +kernel)) rfl
          refine ⟨56, true, rfl, eg, fun _ Q => ?_, fun h => absurd rfl h⟩
          have e8 := hk.at 8 (by decide +kernel)
          exact wp_value _ (by simp only [execOp, e8]; rfl) (SV_mk rfl rfl)
        · -- 16: Op.move (Operand.tmp 11)
          have eg : a'.eval (.tmp 56) = .bool true := SV_val (hd.val 14 56 (by decide +kernel)) rfl
          refine ⟨56, true, rfl, eg, fun _ Q => ?_, fun h => absurd rfl h⟩
          have e11 := hk.at 11 (by decide +kernel)
          exact wp_value _ (by simp only [execOp, e11]; rfl) (SV_mk rfl rfl)
        · -- 17: Op.binOp BinOp.eql 3 (Operand.tmp 57) (Operand.tmp 58) 3
          have eg : a'.eval (.tmp 56) = .bool true := SV_val (hd.val 14 56 (by decide +kernel)) rfl
          refine ⟨56, true, rfl, eg, fun _ Q => ?_, fun h => absurd rfl h⟩
          have xe57 := SV_val (hd.val 15 57 (by decide +kernel)) rfl
          have e57 : a'.eval (.tmp 57) = .int .i64 (X : Int) := xe57
          have xe58 := SV_val (hd.val 16 58 (by decide +kernel)) rfl
          have e58 : a'.eval (.tmp 58) = .int .i64 (X : Int) := xe58
          clear hd hk xe57 xe58
          exact wp_value (.bool true) (by simp only [execOp, e57, e58]; go_simp) (SV_mk rfl rfl)
        · -- 18: Op.pick (Operand.tmp 56) (Operand.tmp 59) (Operand.const (Va
          intro Q
          have xe56 := SV_val (hd.val 14 56 (by decide +kernel)) rfl
          have e56 : a'.eval (.tmp 56) = .bool true := xe56
          have xe59 := SV_val (hd.val 17 59 (by decide +kernel)) rfl
          have e59 : a'.eval (.tmp 59) = .bool true := xe59
          clear hd hk xe56 xe59
          exact wp_value (.bool true) (by simp only [execOp, e56, e59]; go_simp) (SV_mk rfl rfl)
        · -- 19: Op.move (Operand.tmp 60)
          intro Q
          have xe60 := SV_val (hd.val 18 60 (by decide +kernel)) rfl
          have e60 : a'.eval (.tmp 60) = .bool true := xe60
          exact wp_value _ (by simp only [execOp, e60]; rfl) (SV_mk rfl rfl)
        · -- 20: Op.move (Operand.tmp 9)
          have eg : a'.eval (.tmp 61) = .bool true := SV_val (hd.val 19 61 (by decide +kernel)) rfl
          refine ⟨61, true, rfl, eg, fun _ Q => ?_, fun h => absurd rfl h⟩
          have e9 := hk.at 9 (by decide +kernel)
          exact wp_value _ (by simp only [execOp, e9]; rfl) (SV_mk rfl rfl)
        · -- 21: Op.move (Operand.tmp 12)
          have eg : a'.eval (.tmp 61) = .bool true := SV_val (hd.val 19 61 (by decide +kernel)) rfl
          refine ⟨61, true, rfl, eg, fun _ Q => ?_, fun h => absurd rfl h⟩
          have e12 := hk.at 12 (by decide +kernel)
          exact wp_value _ (by simp only [execOp, e12]; rfl) (SV_mk rfl rfl)
        · -- 22: Op.binOp BinOp.eql 4 (Operand.tmp 62) (Operand.tmp 63) 4
          have eg : a'.eval (.tmp 61) = .bool true := SV_val (hd.val 19 61 (by decide +kernel)) rfl
          refine ⟨61, true, rfl, eg, fun _ Q => ?_, fun h => absurd rfl h⟩
          have xe62 := SV_val (hd.val 20 62 (by decide +kernel)) rfl
          have e62 : a'.eval (.tmp 62) = .bool Z := xe62
          have xe63 := SV_val (hd.val 21 63 (by decide +kernel)) rfl
          have e63 : a'.eval (.tmp 63) = .bool Z := xe63
          clear hd hk xe62 xe63
          exact wp_value (.bool true) (by simp only [execOp, e62, e63]; go_simp) (SV_mk rfl rfl)
        · -- 23: Op.pick (Operand.tmp 61) (Operand.tmp 64) (Operand.const (Va
          intro Q
          have xe61 := SV_val (hd.val 19 61 (by decide +kernel)) rfl
          have e61 : a'.eval (.tmp 61) = .bool true := xe61
          have xe64 := SV_val (hd.val 22 64 (by decide +kernel)) rfl
          have e64 : a'.eval (.tmp 64) = .bool true := xe64
          clear hd hk xe61 xe64
          exact wp_value (.bool true) (by simp only [execOp, e61, e64]; go_simp) (SV_mk rfl rfl)
        · -- 24: Op.move (Operand.tmp 65)
          intro Q
          have xe65 := SV_val (hd.val 23 65 (by decide +kernel)) rfl
          have e65 : a'.eval (.tmp 65) = .bool true := xe65
          exact wp_value _ (by simp only [execOp, e65]; rfl) (SV_mk rfl rfl)
        · -- 25: Op.call ( callee := Callee.value (Operand.func 9), args := #
          have eg : a'.eval (.tmp 66) = .bool true := SV_val (hd.val 24 66 (by decide +kernel)) rfl
          refine ⟨66, true, rfl, eg, fun _ Q => ?_, fun h => absurd rfl h⟩
          refine wp_call 9 _ (run_enter 9 _ _ rfl (by kernel_rfl)) ?_
          simp only [List.map_toArray, List.map_nil]
          refine (lives_any _).mono ?_
          rintro e w5 ⟨rfl, hb5⟩
          exact ⟨_, rfl, SV_mk rfl rfl, hb5⟩
        · -- 26: Op.pick (Operand.tmp 66) (Operand.tmp 67) (Operand.const (Va
          intro Q
          have xe66 := SV_val (hd.val 24 66 (by decide +kernel)) rfl
          have e66 : a'.eval (.tmp 66) = .bool true := xe66
          have xe67 := SV_val (hd.val 25 67 (by decide +kernel)) rfl
          have e67 : a'.eval (.tmp 67) = .bool true := xe67
          clear hd hk xe66 xe67
          exact wp_value (.bool true) (by simp only [execOp, e66, e67]; go_simp) (SV_mk rfl rfl)
        · -- 27: Op.assign (Operand.tmp 68)
          intro Q
          have xe68 := SV_val (hd.val 26 68 (by decide +kernel)) rfl
          have e68 : a'.eval (.tmp 68) = .bool true := xe68
          exact wp_value _ (by simp only [execOp, e68]; rfl) (SV_mk rfl rfl)
      · intro a' w' hsz' hdf hk hS hg
        have x6 := SV_val (hS 27 _ 6 rfl rfl) rfl
        have e6 : a'.eval (.tmp 6) = .bool true := x6
        go_wp2
        exact bodyPost_ret (results_tmp Try.results5 _ _ _) hdf ⟨congrArg Ending.returned e6, hbw.trans (Below.mono hg hbw.size)⟩
#print axioms packLists_core
end Go.Proofs.Ytcfakmjkbgcbhaa
