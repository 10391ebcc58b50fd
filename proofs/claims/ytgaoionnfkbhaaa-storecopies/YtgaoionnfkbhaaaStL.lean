/-
  indenturelaw08.lives: what the call does.
-/
import Derived.Test.YtgaoionnfkbhaaaStT
namespace Go.Proofs.Ytgaoionnfkbhaaa
open Go.RowKit
def ka : ByteArray := ⟨#[97]⟩
def vx : ByteArray := ⟨#[120]⟩
theorem ka_list : ka.toList = [97] := by rw [ByteArray.toList_eq]; rfl
theorem vx_list : vx.toList = [120] := by rw [ByteArray.toList_eq]; rfl
def sl1 : SP := instP sp0 1 [(ka, vx, false)]
def sl2 : SP := instP sl1 2 [(ka, em, true)]
theorem good1 : goodP em [(ka, vx, false)] = true := by
  show (pOk (ka, vx, false) em && true) = true
  unfold pOk
  rw [lt_em, ka_list]
  rfl
theorem good2 : goodP em [(ka, em, true)] = true := by
  show (pOk (ka, em, true) em && true) = true
  unfold pOk
  rw [lt_em, ka_list, em_list]
  rfl
theorem inst1 : instOk sp0 1 [(ka, vx, false)] = true := by unfold instOk; rw [good1]; rfl
theorem sl1_eq : sl1 = ⟨addL sp0.ch 1 [(ka, vx, false)], 1, 0⟩ := by unfold sl1 instP; rw [inst1]; rfl
theorem inst2 : instOk sl1 2 [(ka, em, true)] = true := by unfold instOk; rw [good2, sl1_eq]; rfl
theorem sl2_eq : sl2 = ⟨addL (addL sp0.ch 1 [(ka, vx, false)]) 2 [(ka, em, true)], 2, 0⟩ := by unfold sl2 instP; rw [inst2, sl1_eq]; rfl
theorem sl2_ch : sl2.ch ka = [(1, vx, false), (2, em, true)] := by
  rw [sl2_eq]
  show add1 (add1 sp0.ch 1 (ka, vx, false)) 2 (ka, em, true) ka = _
  unfold add1
  simp [sp0, verOf]
theorem gd2 : gd 0 [(1, vx, false), (2, em, true)] = true := by
  simp [gd, fol, em_list]
theorem live1 : getS sl2 ka 1 = (vx, 0) := by
  have h0 : mayP sl2 1 = 0 := by rw [sl2_eq]; rfl
  unfold getS getP
  rw [h0, sl2_ch, gd2]
  simp [upto]
theorem live2 : getS sl2 ka 2 = (em, 8) := by
  have h0 : mayP sl2 2 = 0 := by rw [sl2_eq]; rfl
  unfold getS getP
  rw [h0, sl2_ch, gd2]
  simp [upto]
/-- A store that the law made. -/
structure Own1 (w0 w : World) (D M : Nat) (vk : Value) (ks : List ByteArray) (s : SP) : Prop where
  st : StAt w D M vk ks s
  hD : w0.heap.size ≤ D
  hM : w0.heap.size ≤ M
  hk : ∀ b, vk.ownBlock = some b → w0.heap.size ≤ b
  lo : Below w0.heap.size w0 w
theorem Own1.kept {w0 w w' : World} {D M : Nat} {vk : Value} {ks : List ByteArray} {s : SP} (h : Own1 w0 w D M vk ks s) (hb : Below w.heap.size w w') : Own1 w0 w' D M vk ks s :=
  ⟨h.st.kept hb, h.hD, h.hM, h.hk, h.lo.trans (hb.mono h.lo.size)⟩
theorem Own1.mine {w0 w : World} {D M : Nat} {vk : Value} {ks : List ByteArray} {s : SP} (h : Own1 w0 w D M vk ks s) {b : Nat} (hb : Mine D M vk b) : w0.heap.size ≤ b := by
  rcases hb with rfl | rfl | hb
  · exact h.hD
  · exact h.hM
  · exact h.hk b hb
theorem Own1.act {w0 w w' : World} {D M : Nat} {vk vk' : Value} {ks ks' : List ByteArray} {s s' : SP} (h : Own1 w0 w D M vk ks s) (h' : StAt w' D M vk' ks' s') (hc : Chg (Mine D M vk) w w') (hv : ∀ b, vk'.ownBlock = some b → vk.ownBlock = some b ∨ w.heap.size ≤ b) : Own1 w0 w' D M vk' ks' s' :=
  ⟨h', h.hD, h.hM, fun b hb => by
    rcases hv b hb with h1 | h1
    · exact h.hk b h1
    · exact Nat.le_trans h.lo.size h1, h.lo.trans (hc.below h.lo.size (fun k hk hm => by have := h.mine hm; omega))⟩
theorem own_new {w w' : World} {D M : Nat} (h : StAt w' D M (.slice none 0 0) [] sp0) (hD : w.heap.size ≤ D) (hM : w.heap.size ≤ M) (hb : Below w.heap.size w w') : Own1 w w' D M (.slice none 0 0) [] sp0 := ⟨h, hD, hM, (fun b hb => by cases hb), hb⟩
set_option maxRecDepth 100000 in
set_option maxHeartbeats 1000000 in
theorem lives_any (w : World) : Calls Try.prog 10 #[] w fun e w' => e = .returned (.bool true) ∧ Below w.heap.size w w' := by
  go_enter Try.func10, Try.ntmps10
  go_wp2_with fail
  refine (sNew_any w).mono ?_
  rintro e w1 ⟨D, M, rfl, h1, hD, hM, hb1⟩
  have O1 := hide (own_new h1 hD hM hb1)
  clear h1 hD hM hb1
  have A1 : Hid (Below w1.heap.size w1 (w1.alloc (.cells (PC (ka, vx, false)).toArray 49 (0, 0)))) := (Below.refl _ _).alloc (Nat.le_refl _) _
  have C1 := hide (install_any (O1.out.kept A1.out).st (rdG_one (E := PE) w1 49 (ka, vx, false)) (fun b hb hm => by
    obtain ⟨off, n, cap, e, -⟩ := hb
    cases e
    have := O1.out.st.lt hm
    omega) (by simp) (by simp [sp0]) 1)
  rw [inst1] at C1
  go_wp2_with fail
  refine C1.out.mono ?_
  rintro e w2 ⟨rfl, vk2, ks2, h2, hl2, hc2, hv2⟩
  have O2 : Hid (Own1 w w2 D M vk2 ks2 sl1) := (O1.out.kept A1.out).act h2 hc2 hv2
  have hks : Hid (ks2.length ≤ 1) := hl2
  clear h2 hc2 hv2 hl2 C1 A1
  have A2 : Hid (Below w2.heap.size w2 (w2.alloc (.cells (PC (ka, em, true)).toArray 49 (0, 0)))) := (Below.refl _ _).alloc (Nat.le_refl _) _
  have C2 := hide (install_any (O2.out.kept A2.out).st (rdG_one (E := PE) w2 49 (ka, em, true)) (fun b hb hm => by
    obtain ⟨off, n, cap, e, -⟩ := hb
    cases e
    have := O2.out.st.lt hm
    omega) (by have := hks.out; simp; omega) (by rw [sl1_eq]; simp) 2)
  rw [inst2] at C2
  go_wp2_with fail
  refine C2.out.mono ?_
  rintro e w3 ⟨rfl, vk3, ks3, h3, hl3, hc3, hv3⟩
  have O3 : Hid (Own1 w w3 D M vk3 ks3 sl2) := (O2.out.kept A2.out).act h3 hc3 hv3
  clear h3 hc3 hv3 hl3 C2 A2
  have G1 := hide (sGet_any O3.out.st (by rw [sl2_eq]; simp) ka (by simp [maxLen, ka]; decide) 1)
  rw [live1] at G1
  go_wp2_with fail
  refine G1.out.mono ?_
  rintro e w4 ⟨rfl, hb4⟩
  have O4 := hide (O3.out.kept hb4)
  clear hb4 G1
  have G2 := hide (sGet_any O4.out.st (by rw [sl2_eq]; simp) ka (by simp [maxLen, ka]; decide) 2)
  rw [live2] at G2
  go_wp2_with fail
  refine G2.out.mono ?_
  rintro e w5 ⟨rfl, hb5⟩
  have O5 := hide (O4.out.kept hb5)
  clear hb5 G2
  have q1 := vx_list
  go_wp2_with fail
  go_ret
  exact ⟨rfl, O5.out.lo⟩
#print axioms lives_any
end Go.Proofs.Ytgaoionnfkbhaaa
