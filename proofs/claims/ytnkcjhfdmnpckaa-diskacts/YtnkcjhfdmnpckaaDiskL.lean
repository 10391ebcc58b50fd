/-
  (*disk.Disk).last; slices.Clone, maps.Clone: what the calls do.
-/
import Derived.Test.YtnkcjhfdmnpckaaDiskS
namespace Go.Proofs.Ytnkcjhfdmnpckaa
open Go.RowKit
theorem Try.size68 : (Try.prog.info? 68).map (·.size) = some 32 := by kernel_rfl
/-- A sector as it was written last. -/
def lastOf (s : St) (k : Nat) : List UInt8 := match s.f k with
  | some l => l
  | none => (s.safe.drop (32 * k)).take 32
theorem OwnS.range {w : World} {S n cap : Nat} {l : List UInt8} (h : OwnS w S n cap l) (k : Nat) (hk : k < n) : w.rangeAt S (k * 32) (By ((l.drop (32 * k)).take 32)) := by
  obtain ⟨cur, hb, ht, hl, h1, h2⟩ := h.blk
  refine hb.range (k * 32) _ (fun j v hj => ?_)
  have hll := h.len
  have hj32 : j < 32 := by
    have := (List.getElem?_eq_some_iff.1 hj).1
    rw [By_length, List.length_take] at this
    omega
  have : (cur.take (n * 32))[k * 32 + j]? = cur[k * 32 + j]? := List.getElem?_take_of_lt (by omega)
  rw [← this, ht, ← hj]
  simp only [By, List.map_take, List.map_drop]
  rw [List.getElem?_take_of_lt hj32, List.getElem?_drop]
  congr 1
  omega
theorem sec_length {l : List UInt8} {n k : Nat} (h : l.length = n * 32) (hk : k < n) : ((l.drop (32 * k)).take 32).length = 32 := by
  rw [List.length_take, List.length_drop]
  omega
theorem i64_of_nat {k : Nat} (h : k ≤ 4096) : (Lit.int .i64 (k : Int)).wf = true := by
  exact WalkArith.wf_i64 (by omega)
set_option maxHeartbeats 1000000 in
set_option maxRecDepth 100000 in
theorem last_any {w : World} {D S M n cap N : Nat} {vo vk : Value} {s : St} (h : At w D S M n cap N vo vk s) (k : Nat) (hk : k < n) :
    Calls Try.prog 39 #[.pointer (some ⟨D, 0, none⟩), .int .i64 (k : Int)] w fun e w' => e = .returned (.agg (By (lastOf s k)).toArray) ∧ Below w.heap.size w w' := by
  have HA : Hid (At w D S M n cap N vo vk s) := h
  have hn := h.max
  clear h
  obtain ⟨B, HB⟩ : ∃ B, Hid (w.heap.size = B) := ⟨_, rfl⟩
  have hz := zeroS
  obtain ⟨Z, HZ⟩ : ∃ Z, Hid (By Zs = Z) := ⟨_, rfl⟩
  rw [HZ.out] at hz
  have hzl : Z.length = 32 := by rw [← HZ.out]; rfl
  go_enter Try.func39, Try.ntmps39
  go_upto_region 1 with fail
  rw [HB.out]
  obtain ⟨w1, hw1⟩ : ∃ x, x = w.alloc (.cells Z.toArray 68 (0, 0)) := ⟨_, rfl⟩
  rw [← hw1]
  have L1 : Hid (Below B w w1) := (show Below _ _ _ by rw [hw1]; exact (Below.refl _ _).alloc (by rw [HB.out]; exact Nat.le_refl _) _)
  have A1 : Hid (At w1 D S M n cap N vo vk s) := HA.out.kept (by rw [HB.out]; exact L1.out)
  have R1 : Hid (Blk w1 B 68 Z) := (show Blk _ _ _ _ by rw [hw1, ← HB.out]; exact Blk.new w 68 Z)
  clear hw1
  have c1 := A1.out.d.cell (j := 1) rfl
  have c2 := A1.out.d.cell (j := 2) rfl
  obtain ⟨x, hx, hfx, hlk⟩ := A1.out.mp.look k (i64_of_nat (by omega))
  have X1 : Hid (∀ u ∈ By x, u.oneCell' = true) := By_one x
  have HXl : (By x).length = 32 := by rw [By_length, hx]
  obtain ⟨X, HX⟩ : ∃ X, Hid (By x = X) := ⟨_, rfl⟩
  rw [HX.out] at hlk X1 HXl
  obtain ⟨C, HC⟩ : ∃ C, Hid (w1.heap.size = C) := ⟨_, rfl⟩
  have HBC : Hid (B < C) := (show _ by rw [← HC.out]; exact R1.out.lt)
  go_upto_region 2 with (first
    | (refine wpList_store_new rfl 68 _ _ rfl w1 _ _ _ rfl rfl rfl (by simpa [HXl] using Try.size68) (by simp [hzl, HXl]) (all_one X1.out) ?_)
    | fail)
  rw [HC.out]
  obtain ⟨w2, hw2⟩ : ∃ x, x = w1.alloc (.cells X.toArray 68 (0, 0)) := ⟨_, rfl⟩
  rw [← hw2]
  have L2 : Hid (Below C w1 w2) := (show Below _ _ _ by rw [hw2]; exact (Below.refl _ _).alloc (by rw [HC.out]; exact Nat.le_refl _) _)
  have A2 : Hid (At w2 D S M n cap N vo vk s) := A1.out.kept (by rw [HC.out]; exact L2.out)
  have R2 : Hid (Blk w2 B 68 Z) := R1.out.kept (by rw [HC.out]; exact L2.out)
  have X2 : Hid (Blk w2 C 68 X) := (show Blk _ _ _ _ by rw [hw2, ← HC.out]; exact Blk.new w1 68 X)
  clear hw2 c1 c2 hlk
  have c1 := A2.out.d.cell (j := 1) rfl
  have t2 := R2.out.there 0 32 (by omega)
  have L12 : Hid (Below B w w2) := L1.out.trans (L2.out.mono (Nat.le_of_lt HBC.out))
  cases hf : s.f k with
  | some y =>
    obtain rfl := hfx y hf
    clear hfx
    have r2 := X2.out.range0
    simp only [Option.isSome_some]
    go_wp2_with (first
      | (refine wpList_load_mid rfl 68 _ rfl C 0 rfl X _ r2 Try.underlying68 rfl (by rw [HXl]; exact Try.size68) ?_)
      | (refine wpList_store_mid rfl 68 _ _ rfl B 0 _ rfl rfl (by simpa [HXl] using t2) (by simpa [HXl] using Try.size68) (all_one X1.out) ?_)
      | fail)
    have hB := Blk.over X R2.out 0 (by omega)
    rw [over_all _ _ (by omega)] at hB
    refine bodyPost_ret (results_cell_row rfl _ _ B 68 _ (0, 0) _ rfl hB Try.underlying68 rfl (by simpa [HXl] using Try.size68)) rfl ⟨?_, ?_⟩
    · unfold lastOf
      rw [hf, HX.out]
    · rw [HB.out]
      exact L12.out.trans ((But.setCells B _ 0 w2).below (by omega) (by have := R2.out.lt; omega))
  | none =>
    clear hfx
    simp only [Option.isSome_none]
    have r2 := A2.out.sf.range k hk
    have hyl := sec_length A2.out.sf.len hk
    obtain ⟨y, HY⟩ : ∃ y, Hid ((s.safe.drop (32 * k)).take 32 = y) := ⟨_, rfl⟩
    rw [HY.out] at r2 hyl
    have Y1 : Hid (∀ u ∈ By y, u.oneCell' = true) := By_one y
    have HYl : (By y).length = 32 := by rw [By_length, hyl]
    obtain ⟨Y, HYY⟩ : ∃ Y, Hid (By y = Y) := ⟨_, rfl⟩
    rw [HYY.out] at r2 Y1 HYl
    go_wp2_with (first
      | (refine wpList_load_mid rfl 68 _ rfl S (k * 32) rfl Y _ r2 Try.underlying68 rfl (by rw [HYl]; exact Try.size68) ?_)
      | (refine wpList_store_mid rfl 68 _ _ rfl B 0 _ rfl rfl (by simpa [HYl] using t2) (by simpa [HYl] using Try.size68) (all_one Y1.out) ?_)
      | fail)
    have hB := Blk.over Y R2.out 0 (by omega)
    rw [over_all _ _ (by omega)] at hB
    refine bodyPost_ret (results_cell_row rfl _ _ B 68 _ (0, 0) _ rfl hB Try.underlying68 rfl (by simpa [HYl] using Try.size68)) rfl ⟨?_, ?_⟩
    · unfold lastOf
      rw [hf, HY.out, HYY.out]
    · rw [HB.out]
      exact L12.out.trans ((But.setCells B _ 0 w2).below (by omega) (by have := R2.out.lt; omega))
end Go.Proofs.Ytnkcjhfdmnpckaa
