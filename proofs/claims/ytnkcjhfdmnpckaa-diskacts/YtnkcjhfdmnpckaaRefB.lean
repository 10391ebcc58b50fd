/-
  Bytes laid into a row; a copy in a region that draws its order.
-/
import Derived.Test.YtnkcjhfdmnpckaaRefN
import Derived.Deep.DeepCutAuto
import Derived.Deep.RegionLaw
namespace Go.Proofs.Ytnkcjhfdmnpckaa
open Go.RowKit
open Pd (DM spl)
/-- Bytes laid into a row that is owned. -/
theorem own_blk {w : World} {v : Value} {l : List UInt8} (h : Own w 0 v l) (hl : 0 < l.length) : ∃ g cap cur, v = .slice (some ⟨g, 0, none⟩) l.length cap ∧ Blk w g 5 cur ∧ cur.length = cap ∧ l.length ≤ cap ∧ cap ≤ maxLen ∧ cur.take l.length = By l := by
  obtain ⟨h1, h2⟩ := h
  rcases h2 with ⟨rfl, hn⟩ | ⟨g, cap, cur, rfl, hg, hh, hnc, hcm, hcs, htk⟩
  · omega
  · refine ⟨g, cap, cur.toList, rfl, ?_, by simpa using hcs, hnc, hcm, by simpa using htk⟩
    show w.heap[g]? = _
    rw [hh]
theorem over_take {cur : List Value} {S X : List UInt8} {p : Nat} (h : cur.take S.length = By S) (hp : p + X.length ≤ S.length) : (over cur p (By X)).take S.length = By (spl S p X) := by
  have hlc : S.length ≤ cur.length := by have := congrArg List.length h; rw [List.length_take, By_length] at this; omega
  have e1 : cur.take p = By (S.take p) := by
    have := congrArg (List.take p) h
    rw [List.take_take, Nat.min_eq_left (by omega)] at this
    rw [this]; simp [By]
  have e2 : (cur.drop (p + X.length)).take (S.length - (p + X.length)) = By (S.drop (p + X.length)) := by
    rw [List.take_drop, show p + X.length + (S.length - (p + X.length)) = S.length by omega, h]
    simp [By]
  have hlen : (cur.take p ++ By X).length = p + X.length := by simp [By_length]; omega
  unfold over spl
  rw [List.take_append, hlen, List.take_of_length_le (by rw [hlen]; omega), By_length, e2, e1, By_append, By_append]
theorem own_laid {w : World} {g cap : Nat} {S X : List UInt8} {cur : List Value} {p : Nat} (hB : Blk w g 5 cur) (hc : cur.length = cap) (h1 : S.length ≤ cap) (h2 : cap ≤ maxLen) (ht : cur.take S.length = By S) (hp : p + X.length ≤ S.length) :
    Own (w.setCells g p (By X)) 0 (.slice (some ⟨g, 0, none⟩) S.length cap) (spl S p X) := by
  have hb := Blk.over (By X) hB p (by rw [By_length]; omega)
  have hl := Pd.spl_length hp
  refine ⟨by rw [By_length]; omega, .inr ⟨g, cap, (over cur p (By X)).toArray, by rw [hl], Nat.zero_le _, hb, by omega, h2, ?_, ?_⟩⟩
  · simp [over_length (show p + (By X).length ≤ cur.length by rw [By_length]; omega)]; omega
  · rw [hl, Nat.mul_one]
    exact over_take ht hp
theorem nodup_le : ∀ {k : Nat} {l : List Nat}, l.Nodup → (∀ x ∈ l, x < k) → l.length ≤ k
  | 0, l, _, h => by cases l with
    | nil => simp
    | cons x r => exact absurd (h x (by simp)) (by omega)
  | k + 1, l, hn, h => by
    have h1 := nodup_le (k := k) (l := l.erase k) (hn.erase k) (fun x hx => by
      have a := h x (List.mem_of_mem_erase hx)
      have b : x ≠ k := fun e => by subst e; exact (hn.not_mem_erase hx)
      omega)
    have h2 : l.length ≤ (l.erase k).length + 1 := by
      by_cases hk : k ∈ l
      · rw [List.length_erase_of_mem hk]; omega
      · rw [List.erase_of_not_mem hk]; omega
    omega
/-- A copy of bytes, as a step of a region that draws its order. -/
theorem step_copy_bytes {P : Program} {w : World} {ops : Array Oper} {o : Oper} {a : Act} {K : Act → World → Prop} {Q : Exit → Act → World → Prop} {E : Prop} (hgd : o.guard = none) (d s : Operand) (dT sT : TypeId)
    (ho : o.op = .call { callee := .builtin .copy, args := #[d, s], argTypes := #[dT, sT] }) (elem : TypeId) (hu : P.underlying dT = some (.slice elem)) (hsz : (P.info? elem).map (·.size) = some 1)
    (b off dLen dCap : Nat) (v : Value) (l : List UInt8) (hd : a.eval d = .slice (some ⟨b, off, none⟩) dLen dCap) (hs : a.eval s = v) (hr : Rd w v l) (X : List UInt8) (c : Nat) (hX : l.take dLen = X) (hXc : X.length = c)
    (T : TypeId) (cs : List Value) (hB : Blk w b T cs) (hfit : off + dLen ≤ cs.length)
    (h : K (a.put o.dst (goInt c)) (w.setCells b off (By X))) : if Region.wanted o (yielded ops a.tmps) = true then Oper.wp P o a w K Q else E := by
  have hw : Region.wanted o (yielded ops a.tmps) = true := by simp [Region.wanted, hgd]
  rw [if_pos hw]
  by_cases hc0 : 0 < c
  · exact wp_copy_bytes d s dT sT ho elem hu hsz b off dLen dCap v l hd hs hr X c hX hXc hc0 T cs hB hfit h
  · subst hX hXc
    have e : l.take dLen = [] := List.eq_nil_of_length_eq_zero (by omega)
    rw [e] at h
    obtain ⟨ad, cap, rfl, h1, h2, h3, h4⟩ := hr
    have h0 : Nat.min l.length dLen = 0 := by have := congrArg List.length e; rw [List.length_take, Nat.min_comm] at this; exact this
    have hrun := run_copy_none (P := P) w dT sT o.type elem (some ⟨b, off, none⟩) ad dLen dCap l.length cap hu hsz h0
    unfold Oper.wp
    simp [execOp, ho, resolve, invoke, builtin, hd, hs, hrun, Result.andThen]
    exact h
end Go.Proofs.Ytnkcjhfdmnpckaa
