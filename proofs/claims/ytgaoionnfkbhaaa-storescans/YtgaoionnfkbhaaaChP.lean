/-
  What one key had, plain: versions, which may stand behind which, what there was at a snapshot, trimmed and cut.
-/
import Derived.Test.YtgaoionnfkbhaaaKit
namespace Go.Proofs.Ytgaoionnfkbhaaa
/-- A version: its place, its value, whether it is dead. -/
abbrev Ver : Type := Int × ByteArray × Bool
/-- The cells of a version. -/
def VC (v : Ver) : List Value := [.int .i64 v.1, .string v.2.1, .bool v.2.2]
def VCs (L : List Ver) : List Value := L.flatMap VC
def zv : Ver := (0, ⟨#[]⟩, false)
theorem VC_length (v : Ver) : (VC v).length = 3 := rfl
theorem VC_one (v : Ver) : ∀ u ∈ VC v, u.oneCell' = true := by
  intro u hu
  simp only [VC, List.mem_cons, List.not_mem_nil, or_false] at hu
  rcases hu with rfl | rfl | rfl <;> rfl
theorem VCs_nil : VCs [] = [] := rfl
theorem VCs_cons (v : Ver) (L : List Ver) : VCs (v :: L) = VC v ++ VCs L := rfl
theorem VCs_append (L M : List Ver) : VCs (L ++ M) = VCs L ++ VCs M := by simp [VCs]
theorem VCs_length : ∀ (L : List Ver), (VCs L).length = L.length * 3
  | [] => rfl
  | v :: L => by rw [VCs_cons, List.length_append, VC_length, VCs_length L, List.length_cons]; omega
theorem VCs_one (L : List Ver) : ∀ u ∈ VCs L, u.oneCell' = true := by
  intro u hu
  obtain ⟨v, _, h⟩ := List.mem_flatMap.1 hu
  exact VC_one v u h
theorem VCs_take : ∀ (L : List Ver) (k : Nat), VCs (L.take k) = (VCs L).take (k * 3)
  | [], k => by simp [VCs]
  | v :: L, 0 => by simp [VCs]
  | v :: L, k + 1 => by
    rw [List.take_succ_cons, VCs_cons, VCs_cons, VCs_take L k, List.take_append, VC_length, List.take_of_length_le (l := VC v) (by rw [VC_length]; omega)]
    congr 2
    omega
theorem VCs_drop : ∀ (L : List Ver) (k : Nat), VCs (L.drop k) = (VCs L).drop (k * 3)
  | [], k => by simp [VCs]
  | v :: L, 0 => by simp [VCs]
  | v :: L, k + 1 => by
    rw [List.drop_succ_cons, VCs_cons, VCs_drop L k, List.drop_append, VC_length, List.drop_of_length_le (l := VC v) (by rw [VC_length]; omega), List.nil_append]
    congr 1
    omega
theorem VCs_get {L : List Ver} {j : Nat} (h : j < L.length) {i : Nat} {u : Value} (hi : (VC L[j])[i]? = some u) : (VCs L)[j * 3 + i]? = some u := by
  have e : VCs L = VCs (L.take j) ++ (VC L[j] ++ VCs (L.drop (j + 1))) := by
    rw [← VCs_cons, ← VCs_append, ← List.drop_eq_getElem_cons h, List.take_append_drop]
  have hlt := (List.getElem?_eq_some_iff.1 hi).1
  have hl : (VCs (L.take j)).length = j * 3 := by rw [VCs_length, List.length_take]; congr 1; omega
  rw [e, List.getElem?_append_right (by omega), hl, Nat.add_sub_cancel_left, List.getElem?_append_left hlt]
  exact hi
/-- May v stand behind a version of that place? -/
def fol (v : Ver) (last : Int) : Bool := decide (last < v.1) && (!v.2.2 || v.2.1.toList.isEmpty)
/-- May these be, behind a version of that place? -/
def gd : Int → List Ver → Bool
  | _, [] => true
  | last, v :: L => fol v last && gd v.1 L
/-- The last place. -/
def lst (L : List Ver) : Int := if gd 0 L = true then (L.getLast?.map (·.1)).getD 0 else 0
/-- Those up to a snapshot; those behind it. -/
def upto (n : Int) (L : List Ver) : List Ver := L.filter fun v => decide (v.1 ≤ n)
def past (n : Int) (L : List Ver) : List Ver := L.filter fun v => decide (n < v.1)
def getP (L : List Ver) (n : Int) : Ver × Bool :=
  if gd 0 L = true then (match (upto n L).getLast? with | none => (zv, false) | some v => if v.2.2 = true then (zv, false) else (v, true)) else (zv, false)
def sinceP (L : List Ver) (n : Int) : Nat := if gd 0 L = true then (past n L).length else 0
def cutP (L : List Ver) (n : Int) : List Ver := if gd 0 L = true then upto n L else []
/-- The last of those up to a snapshot, if it is not dead. -/
def liveL (M : List Ver) : List Ver := match M.getLast? with | none => [] | some v => if v.2.2 = true then [] else [v]
def trimP (L : List Ver) (n : Int) : List Ver := if gd 0 L = true then liveL (upto n L) ++ past n L else []
def putOk (L : List Ver) (v : Ver) : Bool := gd 0 L && fol v (lst L)
def putP (L : List Ver) (v : Ver) : List Ver := if putOk L v = true then L ++ [v] else L

/-- Places rise. -/
def Rise (L : List Ver) : Prop := L.Pairwise fun a b => a.1 < b.1
theorem gd_rise : ∀ {L : List Ver} {last : Int}, gd last L = true → Rise L ∧ ∀ v ∈ L, last < v.1
  | [], _, _ => ⟨List.Pairwise.nil, fun v h => by cases h⟩
  | v :: L, last, h => by
    rw [gd, Bool.and_eq_true] at h
    obtain ⟨h1, h2⟩ := h
    obtain ⟨r, hr⟩ := gd_rise h2
    have hv : last < v.1 := by
      unfold fol at h1
      simp only [Bool.and_eq_true, decide_eq_true_eq] at h1
      exact h1.1
    refine ⟨List.Pairwise.cons (fun u hu => hr u hu) r, fun u hu => ?_⟩
    rcases List.mem_cons.1 hu with rfl | hu
    · exact hv
    · exact Int.lt_trans hv (hr u hu)
theorem split_rise (n : Int) : ∀ {L : List Ver}, Rise L → L = upto n L ++ past n L
  | [], _ => rfl
  | v :: L, h => by
    obtain ⟨h1, h2⟩ := List.pairwise_cons.1 h
    have ih := split_rise n h2
    by_cases hv : v.1 ≤ n
    · have e1 : upto n (v :: L) = v :: upto n L := by simp [upto, hv]
      have e2 : past n (v :: L) = past n L := by simp [past, hv]
      rw [e1, e2, List.cons_append, ← ih]
    · have e1 : upto n (v :: L) = upto n L := by simp [upto, hv]
      have e2 : past n (v :: L) = v :: past n L := by simp [past, show n < v.1 by omega]
      have e3 : upto n L = [] := by
        unfold upto
        rw [List.filter_eq_nil_iff]
        intro u hu
        have := h1 u hu
        simp
        omega
      have e4 : past n L = L := by rw [e3] at ih; exact ih.symm
      rw [e1, e2, e3, e4, List.nil_append]
theorem upto_le (n : Int) (L : List Ver) : (upto n L).length ≤ L.length := List.length_filter_le _ _
theorem upto_at {n : Int} {L : List Ver} (h : Rise L) {i : Nat} (hi : i < L.length) : (decide (n < L[i].1)) = decide ((upto n L).length ≤ i) := by
  have e := split_rise n h
  by_cases hlt : i < (upto n L).length
  · have e2 : L[i] = (upto n L)[i] := by
      have : L[i]? = (upto n L)[i]? := by
        conv => lhs; rw [e]
        rw [List.getElem?_append_left hlt]
      rw [List.getElem?_eq_getElem hi, List.getElem?_eq_getElem hlt] at this
      exact Option.some.inj this
    have hm : L[i] ∈ upto n L := by rw [e2]; exact List.getElem_mem hlt
    unfold upto at hm
    rw [List.mem_filter] at hm
    have := hm.2
    simp only [decide_eq_true_eq] at this
    rw [decide_eq_decide]
    omega
  · have hl : L.length = (upto n L).length + (past n L).length := by conv => lhs; rw [e, List.length_append]
    have e2 : L[i]? = (past n L)[i - (upto n L).length]? := by
      conv => lhs; rw [e]
      rw [List.getElem?_append_right (by omega)]
    rw [List.getElem?_eq_getElem hi, List.getElem?_eq_getElem (by omega)] at e2
    have hm : L[i] ∈ past n L := by rw [Option.some.inj e2]; exact List.getElem_mem _
    unfold past at hm
    rw [List.mem_filter] at hm
    have := hm.2
    simp only [decide_eq_true_eq] at this
    rw [decide_eq_decide]
    omega
theorem take_upto {n : Int} {L : List Ver} (h : Rise L) : L.take (upto n L).length = upto n L := by
  conv => lhs; arg 2; rw [split_rise n h]
  simp
theorem drop_upto {n : Int} {L : List Ver} (h : Rise L) : L.drop (upto n L).length = past n L := by
  conv => lhs; arg 2; rw [split_rise n h]
  simp
end Go.Proofs.Ytgaoionnfkbhaaa
