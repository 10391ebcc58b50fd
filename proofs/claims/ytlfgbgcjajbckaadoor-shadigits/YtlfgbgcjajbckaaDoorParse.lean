/-
  sha.Parse: what the call does; hashes and their digits, plain.
-/
import Derived.Test.YtlfgbgcjajbckaaDoorDigit
import Derived.Test.YtlfgbgcjajbckaaDoorNoneWalk
namespace Go.Proofs.YtlfgbgcjajbckaaDoor
open Go.RowKit
/-- The j-th two digits of l are digits. -/
def okAt (l : List UInt8) (j : Nat) : Prop := 0 ≤ dv (gB l (2 * j)) ∧ 0 ≤ dv (gB l (2 * j + 1))
/-- l is the digits of a hash. -/
def okd (l : List UInt8) : Bool := decide (l.length = 64) && (List.range 32).all fun j => decide (0 ≤ dv (gB l (2 * j)) ∧ 0 ≤ dv (gB l (2 * j + 1)))
theorem okd_iff (l : List UInt8) : okd l = true ↔ l.length = 64 ∧ ∀ j, j < 32 → okAt l j := by simp [okd, okAt]
def vz (l : List UInt8) (j : Nat) : UInt8 := UInt8.ofNat ((dv (gB l (2 * j))).toNat * 16 + (dv (gB l (2 * j + 1))).toNat)
def vzs (l : List UInt8) (i : Nat) : List UInt8 := (List.range i).map (vz l) ++ List.replicate (32 - i) 0
/-- What is read of l. -/
def prs (l : List UInt8) : List UInt8 := if okd l = true then vzs l 32 else List.replicate 32 0
theorem vzs_length (l : List UInt8) (i : Nat) (hi : i ≤ 32) : (vzs l i).length = 32 := by simp [vzs]; omega
theorem vzs_set (l : List UInt8) (i : Nat) (hi : i < 32) : (vzs l i).set i (vz l i) = vzs l (i + 1) := by
  unfold vzs
  obtain ⟨q, hq⟩ : ∃ q, 32 - i = q + 1 := ⟨31 - i, by omega⟩
  rw [hq, List.set_append_right _ _ (by simp), show 32 - (i + 1) = q by omega]
  simp [List.replicate_succ, List.range_succ]
theorem prs_length (l : List UInt8) : (prs l).length = 32 := by
  unfold prs
  split
  · exact vzs_length l 32 (by omega)
  · simp
theorem okd_short {l : List UInt8} (h : ¬ l.length = 64) : okd l = false := by simp [okd, h]
theorem okd_not {l : List UInt8} {j : Nat} (hj : j < 32) (h : ¬ okAt l j) : okd l = false := by
  rw [← Bool.not_eq_true, okd_iff]
  exact fun ⟨_, h2⟩ => h (h2 j hj)
theorem okd_all {l : List UInt8} (hl : l.length = 64) (h : ∀ j, j < 32 → okAt l j) : okd l = true := (okd_iff l).2 ⟨hl, h⟩
theorem prs_none {l : List UInt8} (h : okd l = false) : prs l = List.replicate 32 0 := by simp [prs, h]
theorem prs_some {l : List UInt8} (h : okd l = true) : prs l = vzs l 32 := by simp [prs, h]
theorem dv_lt (c : UInt8) : dv c < 16 := by unfold dv; split <;> (try split) <;> omega
theorem hd_dv (c : UInt8) (h : 0 ≤ dv c) : hd (dv c).toNat = c := by
  have : ∀ c : Fin 256, 0 ≤ dv (UInt8.ofNat c.val) → hd (dv (UInt8.ofNat c.val)).toNat = UInt8.ofNat c.val := by decide +kernel
  have h2 := this ⟨c.toNat, c.toNat_lt⟩
  simp only [UInt8.ofNat_toNat] at h2
  exact h2 h
theorem hex_get (l : List UInt8) : ∀ j, j < l.length → gB (hex l) (2 * j) = hd ((gB l j).toNat / 16) ∧ gB (hex l) (2 * j + 1) = hd ((gB l j).toNat % 16) := by
  induction l with
  | nil => intro j hj; simp at hj
  | cons x t ih =>
    intro j hj
    cases j with
    | zero => simp [hex, gB]
    | succ j =>
      have := ih j (by simpa using hj)
      simpa [hex, gB, Nat.mul_add] using this
theorem prs_hex (l : List UInt8) (hl : l.length = 32) : okd (hex l) = true ∧ prs (hex l) = l := by
  have hd16 : ∀ j, j < 32 → (dv (gB (hex l) (2 * j)) = (((gB l j).toNat / 16 : Nat) : Int) ∧ dv (gB (hex l) (2 * j + 1)) = (((gB l j).toNat % 16 : Nat) : Int)) := fun j hj => by
    have h := hex_get l j (by omega)
    have := (gB l j).toNat_lt
    rw [h.1, h.2]
    exact ⟨dv_hd _ (by omega), dv_hd _ (by omega)⟩
  have ho : okd (hex l) = true := okd_all (by rw [hex_length, hl]) fun j hj => by
    have := hd16 j hj
    exact ⟨by omega, by omega⟩
  refine ⟨ho, ?_⟩
  rw [prs_some ho]
  apply List.ext_getElem (by rw [vzs_length _ _ (by omega), hl])
  intro j h1 h2
  have hj : j < 32 := by omega
  simp only [vzs, Nat.sub_self, List.replicate_zero, List.append_nil, List.getElem_map, List.getElem_range]
  have h := hd16 j hj
  have hg : gB l j = l[j] := by simp [gB, List.getD, h2]
  rw [vz, h.1, h.2, hg]
  apply UInt8.toNat_inj.1
  have := l[j].toNat_lt
  simp
  omega
theorem hex_inj {a b : List UInt8} (ha : a.length = 32) (hb : b.length = 32) (h : hex a = hex b) : a = b := by
  rw [← (prs_hex a ha).2, ← (prs_hex b hb).2, h]
theorem hex_prs {l : List UInt8} (h : okd l = true) : hex (prs l) = l := by
  have hp := prs_length l
  obtain ⟨hl, hall⟩ := (okd_iff l).1 h
  apply List.ext_getElem (by rw [hex_length, hp, hl])
  intro k h1 h2
  have hk : k < 64 := by omega
  have hx : gB (hex (prs l)) k = gB l k := by
    have hj : k / 2 < 32 := by omega
    have hg := hex_get (prs l) (k / 2) (by omega)
    have hv : gB (prs l) (k / 2) = vz l (k / 2) := by
      rw [prs_some h]
      simp [gB, List.getD, vzs, hj]
    obtain ⟨o1, o2⟩ := hall (k / 2) hj
    have d1 := dv_lt (gB l (2 * (k / 2)))
    have d2 := dv_lt (gB l (2 * (k / 2) + 1))
    have hn : (vz l (k / 2)).toNat = (dv (gB l (2 * (k / 2)))).toNat * 16 + (dv (gB l (2 * (k / 2) + 1))).toNat := by
      rw [vz, UInt8.toNat_ofNat']
      omega
    rw [hv, hn] at hg
    rcases Nat.mod_two_eq_zero_or_one k with hm | hm
    · rw [show k = 2 * (k / 2) by omega, hg.1, show ((dv (gB l (2 * (k / 2)))).toNat * 16 + (dv (gB l (2 * (k / 2) + 1))).toNat) / 16 = (dv (gB l (2 * (k / 2)))).toNat by omega]
      exact hd_dv _ o1
    · rw [show k = 2 * (k / 2) + 1 by omega, hg.2, show ((dv (gB l (2 * (k / 2)))).toNat * 16 + (dv (gB l (2 * (k / 2) + 1))).toNat) % 16 = (dv (gB l (2 * (k / 2) + 1))).toNat by omega]
      exact hd_dv _ o2
  simpa [gB, List.getD, h1, h2] using hx
theorem str_index (l : List UInt8) (n : Nat) (hn : n < l.length) (W : World) : (Instr.index 9 (.string ⟨l.toArray⟩) (.int .i64 (n : Int))).run Tryd.prog W = .ok (.int .u8 ((gB l n).toNat : Int)) W := by
  have : (⟨l.toArray⟩ : ByteArray)[n]? = some (gB l n) := by
    show (if h : n < _ then some _ else none) = _
    rw [dif_pos (by exact hn)]
    simp only [gB, List.getD, List.getElem?_eq_getElem hn, Option.getD_some]
    rfl
  simp [Instr.index, asIntOf, run_underlying Tryd.underlying9, this]
end Go.Proofs.YtlfgbgcjajbckaaDoor
