/-
  indenturelaw02.SumBack: the walk: the call returns true and makes new memory alone.
-/
import Derived.Test.YtmopfipkbjfhoaaDoorOpen2
import Derived.Test.YtmopfipkbjfhoaaDoorPlain4
namespace Go.Proofs.YtmopfipkbjfhoaaDoor
open Go.RowKit

set_option maxRecDepth 100000 in
set_option maxHeartbeats 1000000 in
theorem sumBack_any (vb vr : Value) (b r : List UInt8) (c : Nat) (w : World) (hT : Tab w) (hb : Rd w vb b) (hr : Rd w vr r) (_hc : Hid (c < 256 ^ 8)) :
    Calls Tryd.prog 6 #[vb, vr, .int .u64 c] w fun e w' => e = .returned (.bool true) ∧ Below w.heap.size w w' := by
  obtain ⟨i0, hi, hz0, hz1, hz2⟩ := info_parts Tryd.info5
  have hb0 := hb
  have hr0 := hr
  obtain ⟨a1, c1, rfl, -⟩ := hb
  obtain ⟨a2, c2, rfl, -⟩ := hr
  by_cases h1 : 3000 < b.length
  · have h1' : (3000 : Int) < b.length := by omega
    go_enter Tryd.func6, Tryd.ntmps6
    go_wp2_with fail
    refine (lives_any w hT).mono ?_
    rintro e w1 ⟨rfl, hb1⟩
    go_wp2_with fail
    go_ret
    exact ⟨rfl, hb1⟩
  have h1' : ¬ (3000 : Int) < b.length := by omega
  by_cases h2 : 1000 < r.length
  · have h2' : (1000 : Int) < r.length := by omega
    go_enter Tryd.func6, Tryd.ntmps6
    go_wp2_with fail
    refine (lives_any w hT).mono ?_
    rintro e w1 ⟨rfl, hb1⟩
    go_wp2_with fail
    go_ret
    exact ⟨rfl, hb1⟩
  have h2' : ¬ (1000 : Int) < r.length := by omega
  have hfl := framed_length b
  have hel := enc_length b.length
  have HO : Hid (opn (framed b ++ r) = (b, (framed b).length, true)) := opn_framed b r (by omega)
  have HC : Hid (∀ c, c < (framed b).length → opn ((framed b).take c) = ([], 0, false)) := fun c hc => opn_cut b c (by omega) hc
  have hF1 : 5 ≤ (framed b).length := by omega
  have hF2 : (framed b).length ≤ 3013 := by omega
  clear hfl hel
  go_enter Tryd.func6, Tryd.ntmps6
  go_wp2_with fail
  refine (frame_any _ b w hT hb0 (by omega)).mono ?_
  rintro e w1 ⟨v1, rfl, ho1, hb1⟩
  generalize framed b = F at *
  obtain ⟨g, cap, rfl, hg1, hg2⟩ : ∃ g cap, v1 = .slice (some ⟨g, 0, none⟩) F.length cap ∧ F.length ≤ cap ∧ g < w1.heap.size := by
    obtain ⟨x1, x2⟩ := ho1
    rcases x2 with ⟨rfl, hn⟩ | ⟨g, cap, cur, rfl, hg, hh, hcap, -⟩
    · omega
    · exact ⟨g, cap, rfl, hcap, (Array.getElem?_eq_some_iff.1 hh).1⟩
  have hs1 := hb1.size
  have ha1 : Below w1.heap.size w1 (w1.alloc (.cells #[] 5 (0, 0))) := (Below.refl _ _).alloc (Nat.le_refl _) _
  go_wp2_with (first
    | (at_builtin; refine wpList_append_bytes _ rfl (.tmp 26) (.tmp 27) 22 22 rfl w1.heap.size i0 Tryd.underlying22 hi hz0 hz1 hz2 _ [] rfl (own_none w1 _ (Nat.le_refl _)) _ F rfl (by exact (ho1.kept ha1).rd.src 22 Tryd.underlying22) (by simp; omega) (by simp) ?_; intro v2 w2 ho2 hb2; simp only [List.nil_append] at ho2)
    | (at_builtin; refine wpList_append_bytes _ rfl (.tmp 28) (.tmp 29) 22 22 rfl w1.heap.size i0 Tryd.underlying22 hi hz0 hz1 hz2 v2 F rfl ho2 _ r rfl (by exact ((hr0.kept hb1).kept (ha1.trans hb2)).src 22 Tryd.underlying22) (by omega) (by have := hb2.size; simp at this; omega) ?_; intro v3 w3 ho3 hb3))
  have hb13 : Below w1.heap.size w1 w3 := (ha1.trans hb2).trans hb3
  have hb03 : Below w.heap.size w w3 := hb1.trans (hb13.mono hs1)
  refine (open_any v3 (F ++ r) w3 (hT.kept hb03) ho3.rd (by simp; omega)).mono ?_
  rintro e w4 ⟨v4, rfl, hx4, hb4⟩
  rw [HO.out] at hx4 ⊢
  have hb14 : Below w1.heap.size w1 w4 := hb13.trans (hb4.mono hb13.size)
  have hb04 : Below w.heap.size w w4 := hb1.trans (hb14.mono hs1)
  have cv1 := hx4.conv (P := Tryd.prog) 22 9 Tryd.underlying22 Tryd.underlying5 Tryd.underlying9
  have cv2 := (hb0.kept hb04).conv (P := Tryd.prog) 22 9 Tryd.underlying22 Tryd.underlying5 Tryd.underlying9
  have hF0 : ¬ (F.length : Int) = 0 := by omega
  obtain ⟨m, hmm⟩ : ∃ m, m = c % F.length := ⟨_, rfl⟩
  have hm : m < F.length := by rw [hmm]; exact Nat.mod_lt _ (by omega)
  have hmI : ((c : Int) % F.length) = (m : Int) := by rw [hmm]; rfl
  clear hmm
  have hmi : (m : Int) < F.length := by omega
  go_wp2_with fail
  refine (open_any _ (F.take m) w4 (hT.kept hb04) (((ho1.kept hb14).rd).take m (by omega)) (by simp; omega)).mono ?_
  rintro e w5 ⟨v5, rfl, -, hb5⟩
  rw [HC.out m hm]
  have hb05 : Below w.heap.size w w5 := hb04.trans (hb5.mono hb04.size)
  go_wp2_with fail
  refine (lives_any _ (hT.kept hb05)).mono ?_
  rintro e w6 ⟨rfl, hb6⟩
  go_wp2_with fail
  go_ret
  exact ⟨rfl, hb05.trans (hb6.mono hb05.size)⟩
#print axioms sumBack_any
end Go.Proofs.YtmopfipkbjfhoaaDoor
