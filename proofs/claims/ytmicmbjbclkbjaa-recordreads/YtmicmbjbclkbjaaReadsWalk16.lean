/-
  The law RecordReads: what the call does.
-/
import Derived.Test.YtmicmbjbclkbjaaGTq
namespace Go.Proofs.Ytmicmbjbclkbjaa
open Go.RowKit
/-- Two that are sound are alike if they have the same bytes. -/
theorem read_same {p q : Rc} (hp : soundP p = true) (hq : soundP q = true) (h : eD (pdR p) = eD (pdR q)) : sameB p q = true := by
  obtain ⟨a1, a2, a3⟩ := sound_ok hp
  obtain ⟨b1, b2, b3⟩ := sound_ok hq
  unfold sameB
  simp only [Bool.and_eq_true, decide_eq_true_eq, eqX_iff]
  have h1 := eD_inj a1 b1 h
  unfold pdR at h1
  rw [Pd.mk.injEq] at h1
  obtain ⟨e1, e2, e3, e4, e5⟩ := h1
  exact ⟨by omega, by omega, e3, e4, e5⟩
theorem same_self (p : Rc) : sameB p p = true := by
  unfold sameB
  simp only [Bool.and_eq_true, decide_eq_true_eq, eqX_iff]
  exact ⟨trivial, trivial, trivial, trivial, trivial⟩
theorem two_same {l : List UInt8} {p q : Rc} {x y : Int} (hx : (x = 0 ∧ soundP p = true ∧ eD (pdR p) = l ∧ l.length ≤ 8192) ∨ (x = 4 ∧ p = zr ∧ ∀ r2, soundP r2 = true → eD (pdR r2) = l → 8192 < l.length))
    (hy : (y = 0 ∧ soundP q = true ∧ eD (pdR q) = l ∧ l.length ≤ 8192) ∨ (y = 4 ∧ q = zr ∧ ∀ r2, soundP r2 = true → eD (pdR r2) = l → 8192 < l.length)) : sameB p q = true ∧ x = y := by
  rcases hx with ⟨a1, a2, a3, a4⟩ | ⟨a1, a2, a3⟩ <;> rcases hy with ⟨b1, b2, b3, b4⟩ | ⟨b1, b2, b3⟩
  · exact ⟨read_same a2 b2 (a3.trans b3.symm), by omega⟩
  · have := b3 p a2 a3
    omega
  · have := a3 q b2 b3
    omega
  · exact ⟨by rw [a2, b2]; exact same_self zr, by omega⟩
set_option maxHeartbeats 2000000 in
set_option maxRecDepth 100000 in
theorem recordReads_any {w : World} {v : Value} {l : List UInt8} (hr : Rd w v l) (hl : l.length ≤ 140737488355328) : Calls Try.prog 3 #[v] w fun e w' => e = .returned (.bool true) ∧ Below w.heap.size w w' := by
  obtain ⟨a, cap, rfl⟩ := hr.slice
  obtain ⟨n, Hn⟩ : ∃ z, Hid (l.length = z) := ⟨_, rfl⟩
  have HLL := hide hl
  have RV := hide hr
  rw [Hn.out] at RV ⊢
  have CV : Hid (∀ W, Calls Try.prog 7 #[] W fun e w' => e = .returned (.bool true) ∧ Below W.heap.size W w') := (show ∀ W, _ from fun W => lives_any W)
  clear hr hl
  by_cases h1 : 3000 < n ∧ n ≤ 8192
  · have q1 : decide ((3000 : Int) < (n : Int)) = true := by simp; omega
    have q2 : decide ((n : Int) ≤ 8192) = true := by simp; omega
    have CL := hide (CV.out w)
    go_enter Try.func3, Try.ntmps3
    go_wp2_with fail
    refine CL.out.mono ?_
    rintro e w9 ⟨rfl, hb9⟩
    have L9 := hide hb9
    clear hb9 CL
    go_wp2_with fail
    go_ret
    exact ⟨rfl, L9.out⟩
  · have CR := hide (jread16_any RV.out HLL.out)
    obtain ⟨c1, Hc1⟩ : ∃ z, decide ((3000 : Int) < (n : Int)) = z := ⟨_, rfl⟩
    obtain ⟨c2, Hc2⟩ : ∃ z, decide ((n : Int) ≤ 8192) = z := ⟨_, rfl⟩
    have HCC : Hid (¬ (c1 = true ∧ c2 = true)) := (show ¬ _ from fun ⟨g1, g2⟩ => h1 (by rw [g1] at Hc1; rw [g2] at Hc2; have k1 := of_decide_eq_true Hc1; have k2 := of_decide_eq_true Hc2; omega))
    clear h1
    cases c1 <;> cases c2
    · go_enter Try.func3, Try.ntmps3
      go_wp2_with fail
      refine CR.out.mono ?_
      rintro e w3 ⟨⟨X, x, rfl, ox, hx⟩, hb3⟩
      have L3 : Hid (Below w.heap.size w w3) := (show Below _ _ _ from hb3)
      have HX := hide hx
      obtain ⟨C, HC⟩ : ∃ z, Hid (w3.heap.size = z) := ⟨_, rfl⟩
      obtain ⟨w4, hw4⟩ : ∃ y, y = w3.alloc (.cells (RC X).toArray 27 (0, 0)) := ⟨_, rfl⟩
      obtain ⟨b4, l4⟩ := newB HC hw4
      have HW4 := hide hw4
      have OX := hide (ox.kept l4.out)
      have L4 : Hid (Below w.heap.size w w4) := (show Below _ _ _ from L3.out.trans (l4.out.mono L3.out.size))
      have CK := hide (kread_any (RV.out.kept L4.out) HLL.out)
      clear hb3 CR ox hx hw4
      go_upto_region 4 with (first
        | (refine wpList_store_new rfl 27 _ _ rfl w3 _ (RC X).toArray _ rfl rfl rfl Try.size27 rfl (all_one (RC_one X)) ?_; rw [← HW4.out, HC.out])
        | fail)
      try simp only [Act.put]
      go_wp2_with fail
      refine CK.out.mono ?_
      rintro e w5 ⟨⟨Q, y, rfl, oq, hy⟩, hb5⟩
      obtain ⟨hsm, hxy⟩ := two_same HX.out hy
      subst hxy
      have L5 : Hid (Below w.heap.size w w5) := (show Below _ _ _ from L4.out.trans (hb5.mono L4.out.size))
      have HS := hide hsm
      obtain ⟨E, HE⟩ : ∃ z, Hid (w5.heap.size = z) := ⟨_, rfl⟩
      obtain ⟨w6, hw6⟩ : ∃ y, y = w5.alloc (.cells (RC Q).toArray 27 (0, 0)) := ⟨_, rfl⟩
      obtain ⟨b6, l6⟩ := newB HE hw6
      have HW6 := hide hw6
      have OQ := hide (oq.kept l6.out)
      have OX6 := hide ((OX.out.kept hb5).kept l6.out)
      have L6 : Hid (Below w.heap.size w w6) := (show Below _ _ _ from L5.out.trans (l6.out.mono L5.out.size))
      have CS := hide (same14_any OX6.out OQ.out)
      rw [HS.out] at CS
      have rkC := ((b4.out.kept hb5).kept l6.out).range0
      have rkE := b6.out.range0
      clear hb5 CK oq hy hw6 hsm
      go_upto_region 5 with (first
        | (refine wpList_store_new rfl 27 _ _ rfl w5 _ (RC Q).toArray _ rfl rfl rfl Try.size27 rfl (all_one (RC_one Q)) ?_; rw [← HW6.out, HE.out])
        | fail)
      try simp only [Act.put]
      go_wp2_with (first
        | (refine wpList_load_mid rfl 27 _ rfl C 0 rfl (RC X) _ rkC Try.underlying27 rfl Try.size27 ?_)
        | (refine wpList_load_mid rfl 27 _ rfl E 0 rfl (RC Q) _ rkE Try.underlying27 rfl Try.size27 ?_)
        | fail)
      refine CS.out.mono ?_
      rintro e w7 ⟨rfl, hb7⟩
      have L7 : Hid (Below w.heap.size w w7) := (show Below _ _ _ from L6.out.trans (hb7.mono L6.out.size))
      have CL := hide (CV.out w7)
      clear hb7 CS rkC rkE
      go_wp2_with fail
      refine CL.out.mono ?_
      rintro e w9 ⟨rfl, hb9⟩
      have L9 : Hid (Below w.heap.size w w9) := (show Below _ _ _ from L7.out.trans (hb9.mono L7.out.size))
      clear hb9 CL
      go_wp2_with fail
      go_ret
      exact ⟨rfl, L9.out⟩
    · go_enter Try.func3, Try.ntmps3
      go_wp2_with fail
      refine CR.out.mono ?_
      rintro e w3 ⟨⟨X, x, rfl, ox, hx⟩, hb3⟩
      have L3 : Hid (Below w.heap.size w w3) := (show Below _ _ _ from hb3)
      have HX := hide hx
      obtain ⟨C, HC⟩ : ∃ z, Hid (w3.heap.size = z) := ⟨_, rfl⟩
      obtain ⟨w4, hw4⟩ : ∃ y, y = w3.alloc (.cells (RC X).toArray 27 (0, 0)) := ⟨_, rfl⟩
      obtain ⟨b4, l4⟩ := newB HC hw4
      have HW4 := hide hw4
      have OX := hide (ox.kept l4.out)
      have L4 : Hid (Below w.heap.size w w4) := (show Below _ _ _ from L3.out.trans (l4.out.mono L3.out.size))
      have CK := hide (kread_any (RV.out.kept L4.out) HLL.out)
      clear hb3 CR ox hx hw4
      go_upto_region 4 with (first
        | (refine wpList_store_new rfl 27 _ _ rfl w3 _ (RC X).toArray _ rfl rfl rfl Try.size27 rfl (all_one (RC_one X)) ?_; rw [← HW4.out, HC.out])
        | fail)
      try simp only [Act.put]
      go_wp2_with fail
      refine CK.out.mono ?_
      rintro e w5 ⟨⟨Q, y, rfl, oq, hy⟩, hb5⟩
      obtain ⟨hsm, hxy⟩ := two_same HX.out hy
      subst hxy
      have L5 : Hid (Below w.heap.size w w5) := (show Below _ _ _ from L4.out.trans (hb5.mono L4.out.size))
      have HS := hide hsm
      obtain ⟨E, HE⟩ : ∃ z, Hid (w5.heap.size = z) := ⟨_, rfl⟩
      obtain ⟨w6, hw6⟩ : ∃ y, y = w5.alloc (.cells (RC Q).toArray 27 (0, 0)) := ⟨_, rfl⟩
      obtain ⟨b6, l6⟩ := newB HE hw6
      have HW6 := hide hw6
      have OQ := hide (oq.kept l6.out)
      have OX6 := hide ((OX.out.kept hb5).kept l6.out)
      have L6 : Hid (Below w.heap.size w w6) := (show Below _ _ _ from L5.out.trans (l6.out.mono L5.out.size))
      have CS := hide (same14_any OX6.out OQ.out)
      rw [HS.out] at CS
      have rkC := ((b4.out.kept hb5).kept l6.out).range0
      have rkE := b6.out.range0
      clear hb5 CK oq hy hw6 hsm
      go_upto_region 5 with (first
        | (refine wpList_store_new rfl 27 _ _ rfl w5 _ (RC Q).toArray _ rfl rfl rfl Try.size27 rfl (all_one (RC_one Q)) ?_; rw [← HW6.out, HE.out])
        | fail)
      try simp only [Act.put]
      go_wp2_with (first
        | (refine wpList_load_mid rfl 27 _ rfl C 0 rfl (RC X) _ rkC Try.underlying27 rfl Try.size27 ?_)
        | (refine wpList_load_mid rfl 27 _ rfl E 0 rfl (RC Q) _ rkE Try.underlying27 rfl Try.size27 ?_)
        | fail)
      refine CS.out.mono ?_
      rintro e w7 ⟨rfl, hb7⟩
      have L7 : Hid (Below w.heap.size w w7) := (show Below _ _ _ from L6.out.trans (hb7.mono L6.out.size))
      have CL := hide (CV.out w7)
      clear hb7 CS rkC rkE
      go_wp2_with fail
      refine CL.out.mono ?_
      rintro e w9 ⟨rfl, hb9⟩
      have L9 : Hid (Below w.heap.size w w9) := (show Below _ _ _ from L7.out.trans (hb9.mono L7.out.size))
      clear hb9 CL
      go_wp2_with fail
      go_ret
      exact ⟨rfl, L9.out⟩
    · go_enter Try.func3, Try.ntmps3
      go_wp2_with fail
      refine CR.out.mono ?_
      rintro e w3 ⟨⟨X, x, rfl, ox, hx⟩, hb3⟩
      have L3 : Hid (Below w.heap.size w w3) := (show Below _ _ _ from hb3)
      have HX := hide hx
      obtain ⟨C, HC⟩ : ∃ z, Hid (w3.heap.size = z) := ⟨_, rfl⟩
      obtain ⟨w4, hw4⟩ : ∃ y, y = w3.alloc (.cells (RC X).toArray 27 (0, 0)) := ⟨_, rfl⟩
      obtain ⟨b4, l4⟩ := newB HC hw4
      have HW4 := hide hw4
      have OX := hide (ox.kept l4.out)
      have L4 : Hid (Below w.heap.size w w4) := (show Below _ _ _ from L3.out.trans (l4.out.mono L3.out.size))
      have CK := hide (kread_any (RV.out.kept L4.out) HLL.out)
      clear hb3 CR ox hx hw4
      go_upto_region 4 with (first
        | (refine wpList_store_new rfl 27 _ _ rfl w3 _ (RC X).toArray _ rfl rfl rfl Try.size27 rfl (all_one (RC_one X)) ?_; rw [← HW4.out, HC.out])
        | fail)
      try simp only [Act.put]
      go_wp2_with fail
      refine CK.out.mono ?_
      rintro e w5 ⟨⟨Q, y, rfl, oq, hy⟩, hb5⟩
      obtain ⟨hsm, hxy⟩ := two_same HX.out hy
      subst hxy
      have L5 : Hid (Below w.heap.size w w5) := (show Below _ _ _ from L4.out.trans (hb5.mono L4.out.size))
      have HS := hide hsm
      obtain ⟨E, HE⟩ : ∃ z, Hid (w5.heap.size = z) := ⟨_, rfl⟩
      obtain ⟨w6, hw6⟩ : ∃ y, y = w5.alloc (.cells (RC Q).toArray 27 (0, 0)) := ⟨_, rfl⟩
      obtain ⟨b6, l6⟩ := newB HE hw6
      have HW6 := hide hw6
      have OQ := hide (oq.kept l6.out)
      have OX6 := hide ((OX.out.kept hb5).kept l6.out)
      have L6 : Hid (Below w.heap.size w w6) := (show Below _ _ _ from L5.out.trans (l6.out.mono L5.out.size))
      have CS := hide (same14_any OX6.out OQ.out)
      rw [HS.out] at CS
      have rkC := ((b4.out.kept hb5).kept l6.out).range0
      have rkE := b6.out.range0
      clear hb5 CK oq hy hw6 hsm
      go_upto_region 5 with (first
        | (refine wpList_store_new rfl 27 _ _ rfl w5 _ (RC Q).toArray _ rfl rfl rfl Try.size27 rfl (all_one (RC_one Q)) ?_; rw [← HW6.out, HE.out])
        | fail)
      try simp only [Act.put]
      go_wp2_with (first
        | (refine wpList_load_mid rfl 27 _ rfl C 0 rfl (RC X) _ rkC Try.underlying27 rfl Try.size27 ?_)
        | (refine wpList_load_mid rfl 27 _ rfl E 0 rfl (RC Q) _ rkE Try.underlying27 rfl Try.size27 ?_)
        | fail)
      refine CS.out.mono ?_
      rintro e w7 ⟨rfl, hb7⟩
      have L7 : Hid (Below w.heap.size w w7) := (show Below _ _ _ from L6.out.trans (hb7.mono L6.out.size))
      have CL := hide (CV.out w7)
      clear hb7 CS rkC rkE
      go_wp2_with fail
      refine CL.out.mono ?_
      rintro e w9 ⟨rfl, hb9⟩
      have L9 : Hid (Below w.heap.size w w9) := (show Below _ _ _ from L7.out.trans (hb9.mono L7.out.size))
      clear hb9 CL
      go_wp2_with fail
      go_ret
      exact ⟨rfl, L9.out⟩
    · exact absurd ⟨rfl, rfl⟩ HCC.out
#print axioms recordReads_any
end Go.Proofs.Ytmicmbjbclkbjaa
