/-
  What comes in, as the walks ask it.
-/
import Derived.Test.YtmicmbjbclkbjaaKit
import Derived.OpenShut
import Derived.ShutString
import Derived.ChangeOld
namespace Go.Proofs.Ytmicmbjbclkbjaa
open Go.RowKit

/-- A slice of integers that came in: nil; or a row of 'cap' cells, the numbers 'zs'. -/
def IsRow (k : IntKind) (w : World) (a : Option Addr) (len cap : Nat) (zs : List Int) : Prop :=
  (a = none ∧ len = 0 ∧ cap = 0 ∧ zs = []) ∨
  ∃ x, a = some x ∧ len ≤ cap ∧ cap ≤ maxLen ∧ zs.length = cap ∧ (∀ i, i < zs.length → w.cell? (x.add i) = some (.int k (zs.getD i 0))) ∧ ∀ n ∈ zs, (Lit.int k n).wf = true

theorem rd_of_row {w : World} {a : Option Addr} {len cap : Nat} {zs : List Int} (h : IsRow .u8 w a len cap zs) : ∃ l, Rd w (.slice a len cap) l := by
  rcases h with ⟨rfl, rfl, rfl, rfl⟩ | ⟨x, rfl, hl, hm, hz, hc, hw⟩
  · exact ⟨[], Rd_nil w⟩
  · refine ⟨(zs.take len).map fun n => UInt8.ofNat n.toNat, ?_⟩
    have hlen : ((zs.take len).map fun n => UInt8.ofNat n.toNat).length = len := by simp; omega
    refine ⟨some x, cap, by rw [hlen], by omega, hm, fun h => by simp at h, fun hp => ?_⟩
    rw [hlen] at hp
    obtain ⟨b, off, spot⟩ := x
    have h0 := hc 0 (by omega)
    have hspot : spot = none := by simpa [Addr.add] using World.cell?_spot h0
    subst hspot
    have h0' : w.cell? ⟨b, off, none⟩ = some (.int .u8 (zs.getD 0 0)) := by simpa [Addr.add_lit] using h0
    refine ⟨b, off, rfl, World.block_lt_of_cell? _ _ h0', fun j u hj => ?_⟩
    have hjl : j < len := by
      have := (List.getElem?_eq_some_iff.1 hj).1
      rw [By_length, hlen] at this
      exact this
    have hjz : j < zs.length := by omega
    have hcj := hc j hjz
    rw [Addr.add_lit] at hcj
    rw [hcj]
    have hwf := hw zs[j] (List.getElem_mem hjz)
    have hb := bounds_u8 hwf
    have e : (By ((zs.take len).map fun n => UInt8.ofNat n.toNat))[j]? = some (.int .u8 zs[j]) := by
      have hjt : j < ((zs.take len).map fun n => UInt8.ofNat n.toNat).length := by rw [hlen]; exact hjl
      rw [By_get hjt]
      simp only [List.getElem_map, List.getElem_take]
      congr 2
      simp
      omega
    rw [e] at hj
    rw [← hj]
    simp [hjz]

theorem args_len {w : World} {a : Option Addr} {len cap : Nat} {l : List UInt8} (h : Rd w (.slice a len cap) l) : l.length = len := by
  obtain ⟨a', cap', e, -⟩ := h
  simp only [Value.slice.injEq] at e
  exact e.2.1.symm

theorem nat_of_u64 {n : Int} (h : (Lit.int .u64 n).wf = true) : ∃ k : Nat, n = k ∧ Hid (k < 256 ^ 8) := by
  have hb := bounds_u64 h
  refine ⟨n.toNat, by omega, ?_⟩
  have : (256 : Nat) ^ 8 = 18446744073709551616 := by decide
  exact (show n.toNat < 256 ^ 8 by omega)
end Go.Proofs.Ytmicmbjbclkbjaa
