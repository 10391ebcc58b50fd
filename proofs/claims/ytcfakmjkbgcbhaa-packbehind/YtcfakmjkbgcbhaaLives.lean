/-
  indenturelaw01.lives: the document's examples are as it says.
-/
import Derived.Test.YtcfakmjkbgcbhaaRefGet
namespace Go.Proofs.Ytcfakmjkbgcbhaa
open Go.RowKit

theorem own_conv {w : World} {B : Nat} {v : Value} {l m : List UInt8} (h : Own w B v l) (e : l = m) : (convert 22 9 v).run Try.prog w = .ok (.string ⟨m.toArray⟩) w := by
  subst e
  exact h.rd.conv 22 9 Try.underlying22 Try.underlying5 Try.underlying9

set_option maxRecDepth 100000 in
set_option maxHeartbeats 400000 in
theorem lives_any (w : World) : Calls Try.prog 9 #[] w fun e w' => e = .returned (.bool true) ∧ Below w.heap.size w w' := by
  go_enter Try.func9, Try.ntmps9
  go_wp2_with fail
  refine (num_any _ [] 5 _ (Rd_nil _) (small_pow (by omega)) (by simp)).mono ?_
  rintro e w1 ⟨v1, rfl, ho1, hb1⟩
  have c1 := own_conv ho1 (show _ = [5] from rfl)
  clear ho1
  go_wp2_with fail
  refine (num_any _ [] 248 _ (Rd_nil _) (small_pow (by omega)) (by simp)).mono ?_
  rintro e w2 ⟨v2, rfl, ho2, hb2⟩
  have c2 := own_conv ho2 (show _ = [248, 248] from rfl)
  clear ho2
  go_wp2_with fail
  refine (num_any _ [] 256 _ (Rd_nil _) (small_pow (by omega)) (by simp)).mono ?_
  rintro e w3 ⟨v3, rfl, ho3, hb3⟩
  have c3 := own_conv ho3 (show _ = [249, 1, 0] from rfl)
  clear ho3
  go_wp2_with fail
  refine (str_any _ [] _ _ (Rd_nil _) (by simp; decide)).mono ?_
  rintro e w4 ⟨v4, rfl, ho4, hb4⟩
  have c4 := own_conv ho4 (show _ = [2, 97, 98] from rfl)
  clear ho4
  go_wp2_with fail
  go_ret
  have b2 := hb1.trans (hb2.mono hb1.size)
  have b3 := b2.trans (hb3.mono b2.size)
  exact ⟨rfl, b3.trans (hb4.mono b3.size)⟩
#print axioms lives_any
end Go.Proofs.Ytcfakmjkbgcbhaa
