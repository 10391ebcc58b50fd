/-
  The reference's Put: what the call does.
-/
import Derived.Test.YtgaoionnfkbhaabChH
import Derived.Test.YtgaoionnfkbhaabRegion6
namespace Go.Proofs.Ytgaoionnfkbhaab
open Go.RowKit

theorem ownV_none (w : World) (B : Nat) (e : TypeId) (hB : B ≤ w.heap.size) : OwnV (w.alloc (.cells #[] e (0, 0))) B e (.slice (some ⟨w.heap.size, 0, none⟩) 0 0) [] :=
  ⟨rfl, .inr ⟨w.heap.size, 0, #[], rfl, hB, heap_alloc_new w _, Nat.le_refl _, by simp [maxLen], rfl, rfl⟩⟩
/-- append onto a row of no room. -/
theorem run_append_fresh {P : Program} (w : World) (base : Nat) (t tx ty e : TypeId) (i : TypeInfo) (ht : P.underlying t = some (.slice e)) (hi : P.info? e = some i) (hz : i.zero = some (.agg (VC zv).toArray)) (hsize : i.size = 3) (hby : i.bytes = 32)
    (g : Addr) (hown : OwnV w base e (.slice (some g) 0 0) []) (x : Value) (M : List Ver) (hs : Src P 3 tx x M.length (VCs M) w) (hlen : M.length ≤ 4398046511104) (hbase : base ≤ w.heap.size) :
    ∃ v' w', (Builtin.append_ #[t, tx] ty #[.slice (some g) 0 0, x]).run P w = .ok v' w' ∧ OwnV w' base e v' M ∧ Below w.heap.size w w' := by
  by_cases hm : M.length = 0
  · have hM : M = [] := List.eq_nil_of_length_eq_zero hm
    subst hM
    refine ⟨.slice (some g) 0 0, w, ?_, hown, Below.refl _ _⟩
    have h1 := hs.len
    have h2 := hs.cells
    simp only [List.length_nil, VCs_nil] at h1 h2
    rcases hs.kind with ⟨e', hk⟩ | hk <;> simp [Builtin.append_, run_underlying ht, run_underlying hk, sizeOf, typeInfo, hi, h1, h2, hsize, storeCells]
  · have hs' : Src P i.size tx x M.length (VCs M) w := by rw [hsize]; exact hs
    have hgrow := fun b hold => run_append_grow_src (P := P) w t tx ty e i _ ht hi hz b 0 0 [] hold x M.length (VCs M) hs' (by omega) (by omega) (growslice_fits (by omega) (by rw [hby]; omega))
    have r1 := hgrow (some g) (run_firstCells_some w.drew i.size 0 g 0 0 [] (by simp) (by simp))
    have r2 := hgrow none (run_firstCells_none w.drew i.size 0 0 0)
    obtain ⟨v', w', hr, h2, h3⟩ := run_append_mine (P := P) w base t tx ty e i _ 3 32 ht hi hz hsize hby rfl (.slice none 0 0) 0 [] (World.ownsRow_nil w base e 3) x M.length (VCs M) hs (by simp only [maxLen]; omega) (by omega) hbase
    refine ⟨v', w', by rw [r1, ← hr, r2], ?_, ?_⟩
    · unfold OwnV
      simpa using h2
    · exact (Below.refl _ w).grown h3 (Nat.le_refl _) (fun k hk => by simp [Value.ownBlock] at hk)
end Go.Proofs.Ytgaoionnfkbhaab
