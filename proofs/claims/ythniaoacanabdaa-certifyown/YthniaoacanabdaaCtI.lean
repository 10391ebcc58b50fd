/-
  certify's inOrder: what the call does.
-/
import Derived.Test.YthniaoacanabdaaCtS
import Derived.Test.YthniaoacanabdaaCtT
import Derived.StillTailTactics
namespace Go.Proofs.Ythniaoacanabdaa
open Go.RowKit
theorem cs_set2 : ∀ (M : List Sp) (i : Nat) (h : i < M.length) (y : ByteArray), (SE.cs M).set (i * 2 + 1) (.string y) = SE.cs (M.set i (M[i].1, y))
  | [], i, h, y => by simp at h
  | s :: M, 0, h, y => rfl
  | s :: M, i + 1, h, y => by
    have ih := cs_set2 M i (by simpa using h) y
    have e : (i + 1) * 2 + 1 = (i * 2 + 1) + 1 + 1 := by omega
    rw [e, Enc.cs_cons, List.set_cons_succ, Enc.cs_cons]
    show SC s ++ _ = _
    simp only [List.getElem_cons_succ]
    rw [← ih]
    rfl
/-- The end of one span is another. -/
theorem own_to {w : World} {B g n cap i : Nat} {M : List Sp} (h : OwnG SE w B 51 (.slice (some ⟨g, 0, none⟩) n cap) M) (hi : i < M.length) (y : ByteArray) :
    OwnG SE (w.setCell ⟨g, i * 2 + 1, none⟩ (.string y)) B 51 (.slice (some ⟨g, 0, none⟩) n cap) (M.set i (M[i].1, y)) := by
  have hlen := h.rd.len
  obtain ⟨g', cap', cur, hv, hg, hB, ht, hc, h1, h2⟩ := h.blk (by omega)
  simp only [Value.slice.injEq, Option.some.injEq, Addr.mk.injEq, and_true] at hv
  obtain ⟨rfl, rfl, rfl⟩ := hv
  have := OwnG.of_blk (E := SE) (B := B) (cap := cap) (L := M.set i (M[i].1, y)) (hB.set (i * 2 + 1) (.string y)) hg (by
    rw [List.length_set, List.take_set, ht]
    exact cs_set2 M i hi y) (by rw [List.length_set]; exact hc) (by rw [List.length_set]; exact h1) h2
  rwa [List.length_set] at this
theorem upp_start (S : List Sp) : Upp S 1 S := by
  refine ⟨rfl, fun j h => ?_⟩
  by_cases hj : j < 1
  · obtain rfl : j = 0 := by omega
    rw [if_pos hj, getD_at h]
    show S[0] = (S[0].1, (S.getD 0 (em, em)).2)
    rw [getD_at h]
  · rw [if_neg hj, getD_at h]
theorem upp_step {S M : List Sp} {i : Nat} (h : Upp S (i + 1) M) (hi : i + 1 < M.length) : Upp S (i + 2) (M.set (i + 1) ((M[i + 1]).1, mxB (M[i + 1]).2 (M[i]'(by omega)).2)) := by
  obtain ⟨h1, h2⟩ := h
  refine ⟨by rw [List.length_set]; exact h1, fun j hj => ?_⟩
  rw [List.length_set] at hj
  rw [List.getElem_set]
  by_cases e : i + 1 = j
  · subst e
    rw [if_pos rfl, if_pos (by omega), h2 (i + 1) hi, if_neg (by omega), h2 i (by omega), if_pos (by omega)]
    rfl
  · rw [if_neg e, h2 j hj]
    by_cases e2 : j < i + 1
    · rw [if_pos e2, if_pos (by omega)]
    · rw [if_neg e2, if_neg (by omega)]
theorem max_run (x y : ByteArray) : ∀ W, (Builtin.max_ #[9, 9] 9 #[.string x, .string y]).run Try.prog W = .ok (.string (mxB x y)) W := fun W => by
  have hg := sge 9 x y
  unfold mxB
  cases h : lt x y with
  | true =>
    have h' : Op.bytesLess x.toList y.toList = true := h
    simp [Builtin.max_, Builtin.max2, go_sem, Op.stringOp, h']
  | false =>
    have h' : Op.bytesLess x.toList y.toList = false := h
    simp [Builtin.max_, Builtin.max2, go_sem, Op.stringOp, h']
set_option maxHeartbeats 2000000 in
set_option maxRecDepth 100000 in
theorem inOrder_own {w : World} {B : Nat} {v : Value} {l : List Sp} (ho : OwnG SE w B 51 v l) (hl : l.length ≤ 1000000) :
    Calls Try.prog 26 #[v] w fun e w' => e = .returned v ∧ ∃ M, Ord l M ∧ OwnG SE w' B 51 v M ∧ Chg (fun b => v.ownBlock = some b) w w' := by
  have CS := hide (sorts_any ho hl)
  obtain ⟨a, cap, rfl⟩ := ho.form
  obtain ⟨n, HN⟩ : ∃ n, Hid (l.length = n) := ⟨_, rfl⟩
  have HLL := hide hl
  rw [HN.out] at CS ⊢
  have hn : n ≤ 1000000 := by rw [← HN.out]; exact hl
  clear ho hl
  go_enter Try.func26, Try.ntmps26
  go_wp2_with fail
  refine CS.out.mono ?_
  rintro e w2 ⟨rfl, S, hp, hs, ho2, hc2⟩
  have hSn : S.length = n := by rw [← HN.out]; exact hp.length_eq
  have HP := hide hp
  have HS := hide hs
  have O2 := hide ho2
  have C2 := hide hc2
  have U2 := hide (upp_start S)
  have HSN := hide hSn
  clear hp hs ho2 hc2 CS hSn
  go_wp2_with fail
  go_loopg [3] (n + 1) (fun gg z wr => ∃ (i : Nat) (M : List Sp), z = .int .i64 (i : Int) ∧ gg + i = n + 2 ∧ 1 ≤ i ∧ (i ≤ n ∨ n = 0) ∧ Hid (Upp S i M) ∧ Hid (OwnG SE wr B 51 (.slice a n cap) M) ∧ Hid (Chg (fun b => (Value.slice a n cap).ownBlock = some b) w wr))
  case atStart => exact ⟨1, S, by rfl, by omega, by omega, by omega, U2, O2, C2⟩
  case round =>
    clear O2 C2 U2
    obtain ⟨i, M, rfl, hg, hi1, hin, HU, OR, CR⟩ := hrel
    have hML : M.length = n := by rw [HU.out.1]; exact HSN.out
    by_cases hlt : i < n
    · have hlt' : (i : Int) < (n : Int) := by omega
      obtain ⟨j, rfl⟩ : ∃ j, i = j + 1 := ⟨i - 1, by omega⟩
      obtain ⟨g, cap', cur, hv, hBg, hBk, -⟩ := OR.out.blk (by omega)
      simp only [Value.slice.injEq] at hv
      obtain ⟨rfl, -, rfl⟩ := hv
      obtain ⟨b0, o0, hab, hbw, hx⟩ := OR.out.rd.nth (by omega)
      simp only [Option.some.injEq, Addr.mk.injEq, and_true] at hab
      obtain ⟨hab1, hab2⟩ := hab
      subst hab1
      subst hab2
      have hi0 : j + 1 < M.length := by omega
      have hj0 : j < M.length := by omega
      have c1 : wr.drew.cell? ⟨g, (j + 1) * 2 + 1, none⟩ = some (.string M[j + 1].2) := by have := hx (j + 1) hi0 1 _ rfl; rw [Nat.zero_add] at this; exact this
      have c0 : wr.drew.cell? ⟨g, j * 2 + 1, none⟩ = some (.string M[j].2) := by have := hx j hj0 1 _ rfl; rw [Nat.zero_add] at this; exact this
      have f1 : wr.drew.frozen? ⟨g, (j + 1) * 2 + 1, none⟩ = false := hBk.frozen _
      have HO := own_to (OR.out.kept ((Below.refl _ _).drew)) hi0 (mxB M[j + 1].2 M[j].2)
      have HU2 := hide (upp_step HU.out hi0)
      have hmx := max_run M[j + 1].2 M[j].2
      have CW : Chg (fun b => (Value.slice (some ⟨g, 0, none⟩) n cap).ownBlock = some b) wr (wr.drew.setCell ⟨g, (j + 1) * 2 + 1, none⟩ (.string (mxB M[j + 1].2 M[j].2))) := (Chg.drew _ _).trans (Chg.setCell (F := fun b => (Value.slice (some ⟨g, 0, none⟩) n cap).ownBlock = some b) wr.drew rfl _ _)
      have C3 : Hid (Chg (fun b => (Value.slice (some ⟨g, 0, none⟩) n cap).ownBlock = some b) w (wr.drew.setCell ⟨g, (j + 1) * 2 + 1, none⟩ (.string (mxB M[j + 1].2 M[j].2)))) := (show Chg _ _ _ from CR.out.trans CW)
      have O3 := hide HO
      obtain ⟨M', HM'⟩ : ∃ z, Hid (M.set (j + 1) (M[j + 1].1, mxB M[j + 1].2 M[j].2) = z) := ⟨M.set (j + 1) (M[j + 1].1, mxB M[j + 1].2 M[j].2), (show _ = _ from rfl)⟩
      rw [HM'.out] at O3 HU2
      generalize hx1 : M[j + 1].2 = x1 at c1 hmx O3 C3
      generalize hx0 : M[j].2 = x0 at c0 hmx O3 C3
      obtain ⟨y, HY⟩ : ∃ y, Hid (mxB x1 x0 = y) := ⟨_, rfl⟩
      rw [HY.out] at hmx O3 C3
      clear hx HO CW hx1 hx0 HM' hML hBk cur
      have q0 : (0 : Int) ≤ (j : Int) := by omega
      have q1 : (j : Int) < (n : Int) := by omega
      have q2 : ((j : Int) + 1) < (n : Int) := by omega
      have q3 : (0 : Int) ≤ (j : Int) + 1 := by omega
      have q4 : IntKind.i64.wrap (j : Int) = (j : Int) := wr64 (by omega) (by omega)
      go_upto_region 5 with fail
      refine wp_region_still_tail 16 Try.mixed (by kernel_rfl) ?_
      simp only [List.take_succ_cons, List.take_zero, List.drop_succ_cons, List.drop_zero]
      iterate 16 still_step
      refine wpStill_nil ?_
      go_wp2_with fail
      go_roundg (n - j)
      case measure => omega
      case rel => exact ⟨j + 2, M', by go_num, by omega, by omega, by omega, HU2, O3, C3⟩
    · have hlt' : ¬ (i : Int) < (n : Int) := by omega
      have HT : Hid (Ord l M) := (show Ord _ _ from ⟨S, HP.out, HS.out, by
        by_cases h0 : n = 0
        · refine ⟨by rw [hML]; exact HSN.out.symm, fun j hj => absurd hj (by omega)⟩
        · have e : S.length = i := by have := HSN.out; omega
          rw [e]
          exact HU.out⟩)
      go_wp2_with fail
      go_ret
      exact ⟨rfl, M, HT.out, OR.out, CR.out⟩
theorem inOrder_any {w : World} {B : Nat} {v : Value} {l : List Sp} (ho : OwnG SE w B 51 v l) (hl : l.length ≤ 1000000) :
    Calls Try.prog 26 #[v] w fun e w' => e = .returned v ∧ Tel w' v l ∧ Chg (fun b => v.ownBlock = some b) w w' :=
  (inOrder_own ho hl).mono fun _ _ ⟨h1, M, h2, h3, h4⟩ => ⟨h1, ⟨⟨M, h3.rd, h2⟩, hl⟩, h4⟩
#print axioms inOrder_any
end Go.Proofs.Ythniaoacanabdaa
