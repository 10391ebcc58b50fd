/-
  indenturelaw01.PackBack: the walk: the call returns true and makes new memory alone.
-/
import Derived.Test.YtcfakmjkbgcbhaaListsWalk
import Derived.Test.YtcfakmjkbgcbhaaPlain3
namespace Go.Proofs.Ytcfakmjkbgcbhaa
open Go.RowKit

theorem toS_sls (ss : List ByteArray) : toS (sls ss) = ss := by
  unfold toS sls sl
  rw [List.map_map]
  conv => rhs; rw [← List.map_id ss]
  apply List.map_congr_left
  intro s _
  rfl

theorem mem_size_le {ss : List ByteArray} {s : ByteArray} (h : s ∈ ss) : s.size ≤ sumS ss := by
  obtain ⟨a, b, rfl⟩ := List.append_of_mem h
  have h1 := sumS_append a (s :: b)
  have h2 := sumS_append [s] b
  simp only [List.singleton_append] at h2
  rw [h2] at h1
  have h3 : sumS [s] = s.size := by simp [sumS]
  omega

theorem light_sls {ss : List ByteArray} (h1 : ss.length ≤ 300) (h2 : ss.length + sumS ss ≤ 4000) : (sls ss).length ≤ 300 ∧ (sls ss).length < 256 ^ 8 ∧ ∀ t ∈ sls ss, t.length ≤ 4000 ∧ t.length < 256 ^ 8 := by
  have hp : (256 : Nat) ^ 8 = 18446744073709551616 := by decide
  refine ⟨by rw [sls_length]; exact h1, by rw [sls_length]; omega, fun t ht => ?_⟩
  obtain ⟨s, hs, rfl⟩ := List.mem_map.1 ht
  have := mem_size_le hs
  rw [sl_length]
  omega

theorem wf_small {z : Int} (h1 : -1 ≤ z) (h2 : z ≤ 4000) : (Lit.int .i64 z).wf = true := by
  simp [Lit.wf, IntKind.min, IntKind.max, IntKind.signed, IntKind.bits]
  omega

theorem few_is (ss : List ByteArray) (q2 : (sls ss).length < 256 ^ 8) (q3 : ∀ t ∈ sls ss, t.length ≤ 4000 ∧ t.length < 256 ^ 8) : (gL (encL (sls ss)) ((ss.length : Int) - 1).toNat 4000).2.2 = ((ss.length : Int) == 0) := by
  rcases Nat.eq_zero_or_pos ss.length with h0 | h0
  · have := gL_enc (sls ss) [] ((ss.length : Int) - 1).toNat 4000 (by rw [sls_length]; omega) q2 q3
    rw [List.append_nil] at this
    rw [this]
    simp [h0]
  · have hg : gn (encL (sls ss)) = ((sls ss).length, (enc (sls ss).length).length, true) := by
      have := gn_enc (sls ss).length (encT (sls ss)) q2
      exact this
    rw [gL_no hg (by rw [sls_length]; omega)]
    exact (beq_eq_false_iff_ne.2 (by omega)).symm

/-- How many it has, of what is owned. -/
theorem Own.form {w : World} {B : Nat} {v : Value} {l : List UInt8} (h : Own w B v l) : ∃ a cap, v = .slice a l.length cap ∧ l.length ≤ cap ∧ (0 < l.length → ∃ b off, a = some ⟨b, off, none⟩) := by
  obtain ⟨a, cap, rfl, h1, -, -, h4⟩ := h.rd
  exact ⟨a, cap, rfl, h1, fun hp => by obtain ⟨b, off, e, -⟩ := h4 hp; exact ⟨b, off, e⟩⟩

set_option maxRecDepth 100000 in
set_option maxHeartbeats 4000000 in
theorem packBack_core (u v : Value) (ss : List ByteArray) (n : Nat) (l : List UInt8) (w : World) (hu : RdS w u ss) (hsz : ∀ s ∈ ss, s.size ≤ 140737488351232) (h2 : Hid (n < 256 ^ 8)) (hr : Rd w v l) (hlb : l.length ≤ 140737488351232) :
    Calls Try.prog 6 #[u, .int .u64 n, v] w fun e w' => e = .returned (.bool true) ∧ Below w.heap.size w w' := by
  have hr0 := hr
  have hu0 := hu
  obtain ⟨a, cap, rfl, -⟩ := hr
  obtain ⟨a2, cap2, rfl, -⟩ := hu
  have hlb' : (l.length : Int) ≤ 140737488351232 := by omega
  obtain ⟨i0, hi, hz0, hz1, hz2⟩ := info_parts Try.info5
  cases hlb : lightB ss with
  | false =>
    have HLB : Hid (lightB ss = false) := hlb
    clear hlb
    go_enter Try.func6, Try.ntmps6
    go_wp2_with fail
    refine (light_k _ ss _ false HLB hu0 hsz).mono ?_
    rintro e w1 ⟨rfl, rfl⟩
    go_wp2_with fail
    refine (lives_any _).mono ?_
    rintro e w1 ⟨rfl, hb1⟩
    go_wp2_with fail
    go_ret
    exact ⟨rfl, hb1⟩
  | true =>
    have HLB : Hid (lightB ss = true) := hlb
    obtain ⟨hs1, hs2⟩ := lightB_spec hlb
    clear hlb
    by_cases hl : 1000 < l.length
    · have hl' : (1000 : Int) < l.length := by omega
      go_enter Try.func6, Try.ntmps6
      go_wp2_with fail
      refine (light_k _ ss _ true HLB hu0 hsz).mono ?_
      rintro e w1 ⟨rfl, rfl⟩
      go_wp2_with fail
      refine (lives_any _).mono ?_
      rintro e w1 ⟨rfl, hb1⟩
      go_wp2_with fail
      go_ret
      exact ⟨rfl, hb1⟩
    · have hl' : ¬ (1000 : Int) < l.length := by omega
      have hel := encT_len ss
      obtain ⟨q1, q2, q3⟩ := light_sls hs1 hs2
      have hen := enc_length n
      have hes := enc_length (sls ss).length
      have hcl : (encL (sls ss)).length = (enc (sls ss).length).length + (encT (sls ss)).length := by simp [encL]
      have gn1 := gn_enc n l h2.out
      have gL1 := gL_enc (sls ss) l 300 4000 q1 q2 q3
      have gL2 := gL_short (sls ss) 300 4000 q1 q2 q3 (by decide) ((encL (sls ss)).length - 1) (by omega)
      have GN1 : Hid (gn (enc n ++ l) = (n, (enc n).length, true)) := gn1
      have GL1 : Hid (gL (encL (sls ss) ++ l) 300 4000 = (sls ss, (encL (sls ss)).length, true)) := gL1
      have GL2 : Hid ((gL ((encL (sls ss)).take ((encL (sls ss)).length - 1)) 300 4000).2.2 = false) := gL2
      have hclen : (encL (sls ss)).length ≤ 20000 := by omega
      have hcpos : 1 ≤ (encL (sls ss)).length := by omega
      clear gn1 gL1 gL2 hes hcl
      go_enter Try.func6, Try.ntmps6
      go_wp2_with fail
      refine (light_k _ ss _ true HLB hu0 hsz).mono ?_
      rintro e w0 ⟨rfl, hw0⟩
      subst w0
      clear HLB
      go_wp2_with fail
      refine (num_any _ [] n _ (Rd_nil _) h2 (by simp)).mono ?_
      rintro e w1 ⟨v1, rfl, ho1, hb1⟩
      rw [List.nil_append] at ho1
      obtain ⟨a3, cap3, rfl, -, -⟩ := ho1.form
      have hr1 := hr0.kept hb1
      go_wp2_with (first
        | (at_builtin; refine wpList_append_bytes _ rfl (.tmp 33) (.tmp 34) 22 22 rfl w1.heap.size i0 Try.underlying22 hi hz0 hz1 hz2 _ [] rfl (own_none w1 _ (Nat.le_refl _)) _ (enc n) rfl (by exact (ho1.kept ((Below.refl _ _).alloc (Nat.le_refl _) _)).rd.src 22 Try.underlying22) (by simp; omega) (by simp) ?_; intro v2 w2 ho2 hb2; simp only [List.nil_append] at ho2)
        | (at_builtin; refine wpList_append_bytes _ rfl (.tmp 35) (.tmp 36) 22 22 rfl w1.heap.size i0 Try.underlying22 hi hz0 hz1 hz2 _ (enc n) rfl ho2 _ l rfl (by exact (hr1.kept (((Below.refl _ _).alloc (Nat.le_refl _) _).trans hb2)).src 22 Try.underlying22) (by omega) (by have := hb2.size; simp at this; omega) ?_; intro v3 w3 ho3 hb3))
      refine (getNum_any _ _ _ ho3.rd (by simp; omega)).mono ?_
      rw [GN1.out]
      rintro e w4 ⟨rfl, hb4⟩
      have hb14 : Below w1.heap.size w1 w4 := (((Below.refl _ _).alloc (Nat.le_refl _) _).trans hb2).trans (hb3.trans (hb4.mono (by have := hb2.size; have := hb3.size; simp at *; omega)))
      have hbw4 := hb1.trans (hb14.mono hb1.size)
      clear ho1 ho2 ho3 hr1 hb2 hb3 hb4
      go_wp2_with fail
      refine (list_any _ _ [] ss _ (Rd_nil _) (hu0.kept hbw4) (by simp; omega)).mono ?_
      rintro e w5 ⟨v5, rfl, ho5, hb5⟩
      rw [List.nil_append] at ho5
      obtain ⟨a6, cap6, rfl, hcap6, hform⟩ := ho5.form
      obtain ⟨b6, off6, rfl⟩ := hform (by omega)
      clear hform
      have hbw5 := hbw4.trans (hb5.mono hbw4.size)
      have hr5 := hr0.kept hbw5
      generalize hC : encL (sls ss) = C at *
      have HC : Hid (encL (sls ss) = C) := hC
      clear hC
      have hCi : (C.length : Int) ≤ 20000 := by omega
      have hCi1 : (1 : Int) ≤ C.length := by omega
      have hCc : (C.length : Int) ≤ cap6 := by omega
      have hcap60 : ¬ cap6 = 0 := by omega
      go_wp2_with (first
        | (at_builtin; refine wpList_append_bytes _ rfl (.tmp 58) (.tmp 59) 22 22 rfl w5.heap.size i0 Try.underlying22 hi hz0 hz1 hz2 _ [] rfl (own_none w5 _ (Nat.le_refl _)) _ C rfl (by exact (ho5.kept ((Below.refl _ _).alloc (Nat.le_refl _) _)).rd.src 22 Try.underlying22) (by simp; omega) (by simp) ?_; intro v6 w6 ho6 hb6; simp only [List.nil_append] at ho6)
        | (at_builtin; refine wpList_append_bytes _ rfl (.tmp 60) (.tmp 61) 22 22 rfl w5.heap.size i0 Try.underlying22 hi hz0 hz1 hz2 _ C rfl ho6 _ l rfl (by exact (hr5.kept (((Below.refl _ _).alloc (Nat.le_refl _) _).trans hb6)).src 22 Try.underlying22) (by omega) (by have := hb6.size; simp at this; omega) ?_; intro v7 w7 ho7 hb7))
      have hb57 : Below w5.heap.size w5 w7 := (((Below.refl _ _).alloc (Nat.le_refl _) _).trans hb6).trans hb7
      refine (getList_any _ _ 300 4000 _ ho7.rd (by simp; omega) (wf_small (by omega) (by omega)) (wf_small (by omega) (by omega))).mono ?_
      rintro e w8 ⟨v8, ts, x8, ok8, rfl, ho8, hg8, hb8⟩
      have e8 := GL1.out.symm.trans hg8
      simp only [Prod.mk.injEq] at e8
      obtain ⟨rfl, rfl, rfl⟩ := e8
      have hb58 := hb57.trans (hb8.mono hb57.size)
      have hbw8 := hbw5.trans (hb58.mono hbw5.size)
      clear hg8 GL1 ho6 ho7 hb6 hb7 hb8
      go_wp2_with fail
      refine (same_any _ _ _ _ _ ho8.rdS (hu0.kept hbw8) (by rw [toS_length, sls_length]; omega) (by omega)).mono ?_
      rw [toS_sls]
      rintro e w9 ⟨rfl, nq, rfl⟩
      have hb59 : Below w5.heap.size w5 (w8.drewN nq) := hb58.trans (below_drewN _ _ _)
      have hbw9 : Below w.heap.size w (w8.drewN nq) := hbw8.trans (below_drewN _ _ _)
      generalize (w8.drewN nq) = w9 at *
      clear ho8 hb58 hbw8
      go_wp2_with fail
      have ho9 := ho5.kept hb59
      refine (getList_any _ _ 300 4000 _ (ho9.rd.take (C.length - 1) (by omega)) (by simp; omega) (wf_small (by omega) (by omega)) (wf_small (by omega) (by omega))).mono ?_
      rintro e w10 ⟨v10, ts10, x10, ok10, rfl, -, hg10, hb10⟩
      have e10 : (gL (C.take (C.length - 1)) 300 4000).2.2 = false := GL2.out
      have hg10' : gL (C.take (C.length - 1)) 300 4000 = (ts10, x10, ok10) := hg10
      rw [hg10'] at e10
      simp only at e10
      subst e10
      have hb510 := hb59.trans (hb10.mono hb59.size)
      have hbw10 := hbw9.trans (hb10.mono hbw9.size)
      have ho10 := ho9.kept hb10
      clear hg10 hg10' GL2 hb10 hbw9 hb59 ho9
      go_wp2_with fail
      refine (getList_any _ _ ((ss.length : Int) - 1) 4000 _ ho10.rd (by omega) (wf_small (by omega) (by omega)) (wf_small (by omega) (by omega))).mono ?_
      rintro e w11 ⟨v11, ts11, x11, ok11, rfl, -, hg11, hb11⟩
      have e11 : (gL C ((ss.length : Int) - 1).toNat 4000).2.2 = ((ss.length : Int) == 0) := by rw [← HC.out]; exact few_is ss q2 q3
      have hg11' : gL C ((ss.length : Int) - 1).toNat 4000 = (ts11, x11, ok11) := hg11
      rw [hg11'] at e11
      simp only at e11
      subst e11
      have hbw11 := hbw10.trans (hb11.mono hbw10.size)
      clear hg11 hg11' hb11 hbw10 ho10 hb510
      rcases Bool.eq_false_or_eq_true ((ss.length : Int) == 0) with hx | hx
      all_goals
        go_wp2_with fail
        refine (lives_any _).mono ?_
        rintro e w12 ⟨rfl, hb12⟩
        go_wp2_with fail
        go_ret
        exact ⟨rfl, hbw11.trans (hb12.mono hbw11.size)⟩
#print axioms packBack_core
end Go.Proofs.Ytcfakmjkbgcbhaa
