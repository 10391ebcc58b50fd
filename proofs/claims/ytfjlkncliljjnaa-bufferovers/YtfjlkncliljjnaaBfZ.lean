/-
  The law's lives, do, light; the reference's Rises: what the calls do.
-/
import Derived.Test.YtfjlkncliljjnaaBfE
import Derived.Test.YtfjlkncliljjnaaBfW
import Derived.Test.YtfjlkncliljjnaaBfSm
namespace Go.Proofs.Ytfjlkncliljjnaa
open Go.RowKit
def tA : ByteArray := ⟨#[97]⟩
def tB : ByteArray := ⟨#[98]⟩
def tC : ByteArray := ⟨#[99]⟩
def t1 : ByteArray := ⟨#[49]⟩
def t2 : ByteArray := ⟨#[50]⟩
def t3 : ByteArray := ⟨#[51]⟩
def tZ : ByteArray := ⟨#[122]⟩
theorem lives_w1 : wrE [] (tB, t2, false) = 0 ∧ wrB [] (tB, t2, false) = [(tB, t2, false)] := by decide
theorem lives_w2 : wrE [(tB, t2, false)] (tA, em, true) = 0 ∧ wrB [(tB, t2, false)] (tA, em, true) = [(tA, em, true), (tB, t2, false)] := by decide +kernel
theorem lives_o : overB [(tA, t1, false), (tC, t3, false)] [(tA, em, true), (tB, t2, false)] em tZ 10 = [(tB, t2, false), (tC, t3, false)] := by decide +kernel
set_option maxHeartbeats 2000000 in
set_option maxRecDepth 100000 in
theorem lives_any (w : World) : Calls Try.prog 10 #[] w fun e w' => e = .returned (.bool true) ∧ Below w.heap.size w w' := by
  have hz := Zpair
  have CN := hide (bNew_any w)
  obtain ⟨N, HN⟩ : ∃ N, Hid (w.heap.size = N) := ⟨_, rfl⟩
  rw [HN.out] at CN ⊢
  go_enter Try.func10, Try.ntmps10
  go_wp2_with fail
  refine CN.out.mono ?_
  rintro e w1 ⟨D, M, rfl, h1, hD, hM, hb1⟩
  have C1 := bPut_any h1 tB t2 (by decide)
  rw [lives_w1.1, lives_w1.2] at C1
  have HC1 := hide C1
  have L1 := hide hb1
  clear CN C1 h1 hb1
  go_wp2_with fail
  refine HC1.out.mono ?_
  rintro e w2 ⟨rfl, h2, hc2⟩
  have C2 := bDrop_any h2 tA (by decide)
  rw [lives_w2.1, lives_w2.2] at C2
  have HC2 := hide C2
  have L2 : Hid (Below N w w2) := (show _ from L1.out.trans (hc2.below (by have := L1.out.size; have := HN.out; omega) (fun k hk e => by omega)))
  clear HC1 C2 h2 hc2 L1
  go_wp2_with fail
  refine HC2.out.mono ?_
  rintro e w3 ⟨rfl, h3, hc3⟩
  have L3 : Hid (Below N w w3) := (show _ from L2.out.trans (hc3.below (by have := L2.out.size; have := HN.out; omega) (fun k hk e => by omega)))
  have H3 := hide h3
  clear HC2 h3 hc3 L2
  have O4 := ownP_two w3 N (tA, t1, false) (tC, t3, false) (by have := L3.out.size; have := HN.out; omega)
  obtain ⟨w4, hw4⟩ : ∃ y, y = w3.alloc (.cells (PC (tA, t1, false) ++ PC (tC, t3, false)).toArray 38 (0, 0)) := ⟨_, rfl⟩
  rw [← hw4] at O4
  have HW4 := hide hw4
  have hb4 : Below w3.heap.size w3 w4 := by rw [hw4]; exact (Below.refl _ _).alloc (Nat.le_refl _) _
  have CO := over_any (H3.out.kept hb4).ov O4.rd em tZ 10 (by simp)
  rw [lives_o] at CO
  have HCO := hide CO
  have L4 : Hid (Below N w w4) := (show _ from L3.out.trans (hb4.mono (by have := L3.out.size; have := HN.out; omega)))
  clear CO hw4 hb4 O4 H3
  go_wp2_with fail
  change Calls _ _ _ (w3.alloc (.cells (PC (tA, t1, false) ++ PC (tC, t3, false)).toArray 38 (0, 0))) _
  rw [← HW4.out]
  refine HCO.out.mono ?_
  rintro e w5 ⟨v5, rfl, o5, hb5⟩
  have L5 : Hid (Below N w w5) := (show _ from L4.out.trans (hb5.mono (by have := L4.out.size; have := HN.out; omega)))
  have O6 := ownP_two w5 N (tB, t2, false) (tC, t3, false) (by have := L5.out.size; have := HN.out; omega)
  obtain ⟨w6, hw6⟩ : ∃ y, y = w5.alloc (.cells (PC (tB, t2, false) ++ PC (tC, t3, false)).toArray 38 (0, 0)) := ⟨_, rfl⟩
  rw [← hw6] at O6
  have HW6 := hide hw6
  have hb6 : Below w5.heap.size w5 w6 := by rw [hw6]; exact (Below.refl _ _).alloc (Nat.le_refl _) _
  have CS := vsame_any (o5.kept hb6).rd O6.rd
  rw [decide_eq_true rfl] at CS
  obtain ⟨a5, c5, rfl⟩ := o5.form
  have HCS := hide CS
  have L6 : Hid (Below N w w6) := (show _ from L5.out.trans (hb6.mono (by have := L5.out.size; have := HN.out; omega)))
  clear CS hw6 hb6 O6 o5 hb5 HCO
  simp only [List.length_cons, List.length_nil, Nat.zero_add, Nat.reduceAdd] at HCS ⊢
  go_wp2_with fail
  change Calls _ _ _ (w5.alloc (.cells (PC (tB, t2, false) ++ PC (tC, t3, false)).toArray 38 (0, 0))) _
  rw [← HW6.out]
  refine HCS.out.mono ?_
  rintro e w7 ⟨rfl, hb7⟩
  have L7 : Hid (Below N w w7) := (show _ from L6.out.trans (hb7.mono (by have := L6.out.size; have := HN.out; omega)))
  clear hb7
  go_wp2_with fail
  go_ret
  exact ⟨rfl, L7.out⟩
/-- What an act does. -/
theorem actP_true (k v : ByteArray) : actP (k, v, true) = (k, em, true) := rfl
theorem actP_false (k v : ByteArray) : actP (k, v, false) = (k, v, false) := rfl
set_option maxHeartbeats 1000000 in
set_option maxRecDepth 100000 in
theorem do_any {w : World} {D M : Nat} {L : List Pr} (h : BAt w D M L) (x : Pr) (hk0 : x.1.size ≤ maxLen) : Calls Try.prog 12 #[PT D, .agg (PC x).toArray] w fun e w' => e = .returned (.int .i64 (wrE L (actP x))) ∧ BAt w' D M (wrB L (actP x)) ∧ Chg (fun b => b = M) w w' := by
  obtain ⟨k, v, d⟩ := x
  obtain ⟨E, HE⟩ : ∃ E, Hid (w.heap.size = E) := ⟨_, rfl⟩
  obtain ⟨w1, hw1⟩ : ∃ y, y = w.alloc (.cells (PC (k, v, d)).toArray 32 (0, 0)) := ⟨_, rfl⟩
  have hb1 : Below w.heap.size w w1 := by rw [hw1]; exact (Below.refl _ _).alloc (Nat.le_refl _) _
  have B1 : Blk w1 E 32 (PC (k, v, d)) := by rw [hw1, ← HE.out]; exact Blk.new w 32 (PC (k, v, d))
  have h1 := h.kept hb1
  have c0 := B1.key
  have c1 := B1.val
  have c2 := B1.dead
  have L1 := hide hb1
  have HW1 := hide hw1
  clear hw1 hb1 B1 h
  cases d with
  | true =>
    rw [actP_true]
    have CD := hide (bDrop_any h1 k hk0)
    obtain ⟨r, HR⟩ : ∃ r, Hid (wrE L (k, em, true) = r) := ⟨_, rfl⟩
    rw [HR.out] at CD ⊢
    clear h1
    go_enter Try.func12, Try.ntmps12
    go_upto_region 1 with fail
    rw [HE.out]
    change Code.wp _ _ _ _ (w.alloc (.cells (PC (k, v, true)).toArray 32 (0, 0)))
    rw [← HW1.out]
    go_wp2_with fail
    refine CD.out.mono ?_
    rintro e w2 ⟨rfl, h2, hc2⟩
    have H2 := hide h2
    have C2 : Hid (Chg (fun b => b = M) w w2) := (show _ from (Chg.of_below L1.out).trans hc2)
    clear h2 hc2
    go_wp2_with fail
    go_ret
    exact ⟨rfl, H2.out, C2.out⟩
  | false =>
    rw [actP_false]
    have CD := hide (bPut_any h1 k v hk0)
    obtain ⟨r, HR⟩ : ∃ r, Hid (wrE L (k, v, false) = r) := ⟨_, rfl⟩
    rw [HR.out] at CD ⊢
    clear h1
    go_enter Try.func12, Try.ntmps12
    go_upto_region 1 with fail
    rw [HE.out]
    change Code.wp _ _ _ _ (w.alloc (.cells (PC (k, v, false)).toArray 32 (0, 0)))
    rw [← HW1.out]
    go_wp2_with fail
    refine CD.out.mono ?_
    rintro e w2 ⟨rfl, h2, hc2⟩
    have H2 := hide h2
    have C2 : Hid (Chg (fun b => b = M) w w2) := (show _ from (Chg.of_below L1.out).trans hc2)
    clear h2 hc2
    go_wp2_with fail
    go_ret
    exact ⟨rfl, H2.out, C2.out⟩
#print axioms lives_any
end Go.Proofs.Ytfjlkncliljjnaa
