/-
  Texts that ride together: RHas RefD RefS RefR RefA RefN.
-/
import Derived.Test.YtgdhjgfoalianaaDoorDInts
import Derived.Test.YtgdhjgfoalianaaDoorDSea
/-
  indentureref05.has: what the call does.
-/
namespace Go.Proofs.YtgdhjgfoalianaaDoor
open Go.RowKit
set_option maxHeartbeats 2000000 in
set_option maxRecDepth 100000 in
theorem has_any {w : World} {v : Value} {A : List Int} (ha : RdN w v A) (s : Int) : Calls Tryd.prog 43 #[v, .int .i64 s] w fun e w' => e = .returned (.bool (decide (s ∈ A))) ∧ w' = w := by
  have HA : Hid (RdN w v A) := ha
  obtain ⟨a, ca, rfl, la, -⟩ := ha.at
  clear ha
  obtain ⟨n, HN⟩ : ∃ n, Hid (A.length = n) := ⟨_, rfl⟩
  rw [HN.out] at la HA ⊢
  go_enter Tryd.func43, Tryd.ntmps43
  go_wp2_with fail
  go_loopg [9] n (fun g x wr => ∃ i : Nat, g + i = n ∧ x = .int .i64 (i : Int) ∧ wr = w ∧ Hid (∀ j, j < i → ∀ x, A[j]? = some x → x ≠ s))
  case atStart => exact ⟨0, by omega, rfl, rfl, (show _ from fun j hj => by omega)⟩
  case round =>
    obtain ⟨i, hgi, rfl, rfl, HR⟩ := hrel
    by_cases hlt : i < n
    · have q2 : (i : Int) < (n : Int) := by omega
      have hi : i < A.length := by rw [HN.out]; exact hlt
      obtain ⟨_, _, e1, -, h1⟩ := HA.out.at
      simp only [Value.slice.injEq] at e1
      obtain ⟨rfl, -, rfl⟩ := e1
      obtain ⟨ba, oa, rfl, hca⟩ := h1 (by omega)
      have cc := hca i hi
      clear hca h1
      obtain ⟨x, HX⟩ : ∃ x, Hid (A[i] = x) := ⟨A[i], (show A[i] = A[i] from rfl)⟩
      rw [HX.out] at cc
      by_cases hx : x = s
      · have HM : Hid (decide (s ∈ A) = true) := (show _ = _ by rw [decide_eq_true]; rw [← hx, ← HX.out]; exact List.getElem_mem hi)
        subst hx
        go_wp2
        go_ret
        exact ⟨congrArg (fun b => Ending.returned (.bool b)) HM.out.symm, rfl⟩
      · have q3 : decide (x = s) = false := by simp [hx]
        go_wp2_with fail
        go_roundg (gk - 1)
        case measure => omega
        case rel =>
          refine ⟨i + 1, by omega, by go_num, rfl, (show _ from fun j hj y hy => ?_)⟩
          by_cases hji : j < i
          · exact HR.out j hji y hy
          · obtain rfl : j = i := by omega
            rw [List.getElem?_eq_getElem hi, HX.out] at hy
            cases hy
            exact hx
    · obtain rfl : i = n := by omega
      have HM : Hid (decide (s ∈ A) = false) := (show _ = _ by
        rw [decide_eq_false]
        intro hs
        obtain ⟨j, hj, e⟩ := List.getElem_of_mem hs
        exact HR.out j (by rw [← HN.out]; exact hj) _ (List.getElem?_eq_getElem hj) e)
      go_wp2
      go_ret
      exact ⟨congrArg (fun b => Ending.returned (.bool b)) HM.out.symm, rfl⟩
end Go.Proofs.YtgdhjgfoalianaaDoor

/-
  The reference's disk in memory, its colour, and Start.
-/
namespace Go.Proofs.YtgdhjgfoalianaaDoor
open Go.RowKit
open Pd (DM)
/-- The seven cells of the reference's disk. -/
def RC (vn vs vd : Value) (off : Bool) (armed : Int) (vk : Value) (torn : Int) : List Value := [vn, vs, vd, .bool off, .int .i64 armed, vk, .int .i64 torn]
theorem ownB_chg {w w' : World} {v : Value} {l : List UInt8} {F : Nat → Prop} (h : Own w 0 v l) (hc : Chg F w w') (hF : ∀ b, v.ownBlock = some b → ¬ F b) : Own w' 0 v l := by
  obtain ⟨h1, h2⟩ := h
  refine ⟨h1, ?_⟩
  rcases h2 with h2 | ⟨g, cap, cur, hv, hg, hh, r⟩
  · exact Or.inl h2
  · have hlt : g < w.heap.size := (Array.getElem?_eq_some_iff.1 hh).1
    exact Or.inr ⟨g, cap, cur, hv, hg, by rw [hc.block g hlt (hF g (by rw [hv]; rfl))]; exact hh, r⟩
theorem ownB_lt {w : World} {v : Value} {l : List UInt8} (h : Own w 0 v l) {b : Nat} (hb : v.ownBlock = some b) : b < w.heap.size := by
  obtain ⟨h1, h2⟩ := h
  rcases h2 with ⟨rfl, _⟩ | ⟨g, cap, cur, rfl, hg, hh, r⟩
  · cases hb
  · cases hb
    exact (Array.getElem?_eq_some_iff.1 hh).1
/-- The disk m lies at R. -/
structure RAt (w : World) (R : Nat) (vn vs vd vk : Value) (m : DM) : Prop where
  blk : Blk w R 73 (RC vn vs vd m.off (m.armed : Int) vk m.torn)
  now : Own w 0 vn m.now
  safe : Own w 0 vs m.safe
  dirty : OwnN w vd (Nats m.dirty)
  keep : OwnN w vk m.keep
  kw : ∀ k ∈ m.keep, (Lit.int .i64 k).wf = true
  ns : ∀ b, vn.ownBlock = some b → vs.ownBlock = some b → False
  dk : ∀ b, vd.ownBlock = some b → vk.ownBlock = some b → False
  am : m.armed ≤ 9223372036854775807
theorem RAt.chg {w w' : World} {R : Nat} {vn vs vd vk : Value} {m : DM} (h : RAt w R vn vs vd vk m) {F : Nat → Prop} (hc : Chg F w w') (h1 : ¬ F R) (h2 : ∀ b, vn.ownBlock = some b → ¬ F b) (h3 : ∀ b, vs.ownBlock = some b → ¬ F b) (h4 : ∀ b, vd.ownBlock = some b → ¬ F b) (h5 : ∀ b, vk.ownBlock = some b → ¬ F b) : RAt w' R vn vs vd vk m :=
  ⟨h.blk.chg hc h1, ownB_chg h.now hc h2, ownB_chg h.safe hc h3, h.dirty.chg hc h4, h.keep.chg hc h5, h.kw, h.ns, h.dk, h.am⟩
theorem RAt.nR {w : World} {R : Nat} {vn vs vd vk : Value} {m : DM} (h : RAt w R vn vs vd vk m) : (∀ b, vn.ownBlock = some b → b ≠ R) ∧ (∀ b, vs.ownBlock = some b → b ≠ R) ∧ (∀ b, vd.ownBlock = some b → b ≠ R) ∧ (∀ b, vk.ownBlock = some b → b ≠ R) := by
  have hB := h.blk
  unfold Blk at hB
  have h5 : ∀ {v : Value} {l : List UInt8}, Own w 0 v l → ∀ b, v.ownBlock = some b → b ≠ R := fun ho b hb e => by
    obtain ⟨_, h2⟩ := ho
    rcases h2 with ⟨rfl, _⟩ | ⟨g, cap, cur, rfl, hg, hh, r⟩
    · cases hb
    · cases hb
      rw [show g = R from e, hB] at hh
      simp at hh
  have h3 : ∀ {v : Value} {l : List Int}, OwnN w v l → ∀ b, v.ownBlock = some b → b ≠ R := fun ho b hb e => by
    obtain ⟨cur, hh⟩ := ho.block hb
    rw [e, hB] at hh
    simp at hh
  exact ⟨h5 h.now, h5 h.safe, h3 h.dirty, h3 h.keep⟩
/-- Block R is the reference's disk of n sectors of colour i. -/
def IsR (w : World) (c : Nat → Nat) (i R n : Nat) (m : DM) : Prop :=
  ∃ vn vs vd vk, RAt w R vn vs vd vk m ∧ Pd.Ok n m ∧ (Pd.Dark m ∧ 0 < n ∧ n ≤ 4096) ∧ c R = i ∧ (∀ b, vn.ownBlock = some b → c b = i) ∧ (∀ b, vs.ownBlock = some b → c b = i) ∧ (∀ b, vd.ownBlock = some b → c b = i) ∧ (∀ b, vk.ownBlock = some b → c b = i) ∧ i ≠ 0
theorem IsR.chg {w w' : World} {c c' : Nat → Nat} {i R n : Nat} {m : DM} (h : IsR w c i R n m) {F : Nat → Prop} (hc : Chg F w w') (hF : ∀ k, k < w.heap.size → c k = i ∨ c k = 0 → ¬ F k) (he : ∀ k, k < w.heap.size → c' k = c k) : IsR w' c' i R n m := by
  obtain ⟨vn, vs, vd, vk, hA, hO, hn, h1, h2, h3, h4, h5, h6⟩ := h
  refine ⟨vn, vs, vd, vk, hA.chg hc (hF R hA.blk.lt (.inl h1)) (fun b hb => hF b (ownB_lt hA.now hb) (.inl (h2 b hb))) (fun b hb => hF b (ownB_lt hA.safe hb) (.inl (h3 b hb))) (fun b hb => hF b (own_lt hA.dirty hb) (.inl (h4 b hb))) (fun b hb => hF b (own_lt hA.keep hb) (.inl (h5 b hb))), hO, hn, ?_, ?_, ?_, ?_, ?_, h6⟩
  · rw [he R hA.blk.lt]; exact h1
  · intro b hb; rw [he b (ownB_lt hA.now hb)]; exact h2 b hb
  · intro b hb; rw [he b (ownB_lt hA.safe hb)]; exact h3 b hb
  · intro b hb; rw [he b (own_lt hA.dirty hb)]; exact h4 b hb
  · intro b hb; rw [he b (own_lt hA.keep hb)]; exact h5 b hb
theorem IsR.step {w w' : World} {c c' : Nat → Nat} {i j R n : Nat} {m : DM} (h : IsR w c i R n m) (hs : Step c j w c' w') (hij : i ≠ j) (hj : j ≠ 0) : IsR w' c' i R n m :=
  h.chg hs.chg (fun _ _ hk e => hk.elim (fun e' => hij (e' ▸ e)) (fun e' => hj (e'.symm.trans e).symm)) hs.ext
theorem IsR.kept {w w' : World} {c c' : Nat → Nat} {i R n : Nat} {m : DM} (h : IsR w c i R n m) (hb : Below w.heap.size w w') (he : ∀ k, k < w.heap.size → c' k = c k) : IsR w' c' i R n m :=
  h.chg (F := fun _ => False) (Chg.of_below hb) (fun _ _ _ => id) he
end Go.Proofs.YtgdhjgfoalianaaDoor

/-
  The reference's disk: Start.
-/
namespace Go.Proofs.YtgdhjgfoalianaaDoor
open Go.RowKit
open Pd (DM)
set_option maxHeartbeats 2000000 in
set_option maxRecDepth 100000 in
theorem rStart_any {w : World} {c : Nat → Nat} {i R n : Nat} {m : DM} (h : IsR w c i R n m) (hN : Norm c w) : Calls Tryd.prog 21 #[.pointer (some ⟨R, 0, none⟩)] w fun e w' => e = .returned (.bool (Pd.start m).1) ∧ IsR w' c i R n (Pd.start m).2 ∧ Step c i w c w' := by
  have H : Hid (IsR w c i R n m) := h
  obtain ⟨vn, vs, vd, vk, hA, hO, hn, h1, h2, h3, h4, h5, h6⟩ := h
  have HA : Hid (RAt w R vn vs vd vk m) := hA
  have c3 := hA.blk.cell (j := 3) rfl
  have c2 := hA.blk.cell (j := 2) rfl
  have z2 := hA.blk.frozen 2
  have z3 := hA.blk.frozen 3
  clear hA
  go_enter Tryd.func21, Tryd.ntmps21
  cases ho : m.off with
  | false =>
    rw [ho] at c3
    have HE : Hid (Pd.start m = (false, m)) := (show _ = _ by unfold Pd.start; rw [if_neg (by rw [ho]; simp)])
    go_wp2
    go_ret
    rw [HE.out]
    exact ⟨rfl, H.out, Chg.refl _ _, fun _ _ => rfl, hN⟩
  | true =>
    rw [ho] at c3
    have HE : Hid (Pd.start m = (true, { m with off := false, dirty := [] })) := (show _ = _ by unfold Pd.start; rw [if_pos ho])
    go_wp2
    go_ret
    rw [HE.out]
    obtain ⟨w1, hw1⟩ : ∃ x, x = (w.setCell ⟨R, 3, none⟩ (.bool false)).setCell ⟨R, 2, none⟩ (.slice none 0 0) := ⟨_, rfl⟩
    have hU : Chg (fun k => k = R) w w1 := by rw [hw1]; exact (Chg.setCell (F := fun k => k = R) w rfl 3 _).trans (Chg.setCell (F := fun k => k = R) _ rfl 2 _)
    have hB : Blk w1 R 73 (RC vn vs (.slice none 0 0) false (m.armed : Int) vk m.torn) := by
      have := (HA.out.blk.set 3 (.bool false)).set 2 (.slice none 0 0)
      rw [← hw1] at this
      exact this
    obtain ⟨n1, n2, n3, n4⟩ := HA.out.nR
    have hR : RAt w1 R vn vs (.slice none 0 0) vk { m with off := false, dirty := [] } := ⟨hB, ownB_chg HA.out.now hU n1, ownB_chg HA.out.safe hU n2, OwnN_nil w1, HA.out.keep.chg hU n4, HA.out.kw, HA.out.ns, fun b hb => (by cases hb), HA.out.am⟩
    have hE1 : (Pd.start m).2 = { m with off := false, dirty := [] } := by rw [HE.out]
    rw [← hw1]
    refine ⟨rfl, ⟨vn, vs, .slice none 0 0, vk, hR, ?_, ⟨?_, hn.2⟩, h1, h2, h3, fun b hb => (by cases hb), h5, h6⟩, hU.mono (fun k _ e => by rw [e]; exact h1), fun _ _ => rfl, hN.kept hU.size⟩
    · rw [← hE1]; exact hO.start hn.1
    · exact fun _ => rfl
end Go.Proofs.YtgdhjgfoalianaaDoor

/-
  The reference's disk: Read.
-/
namespace Go.Proofs.YtgdhjgfoalianaaDoor
open Go.RowKit
open Pd (DM)
theorem wr64 {x : Int} (h0 : -9223372036854775808 ≤ x) (h1 : x ≤ 9223372036854775807) : IntKind.i64.wrap x = x := by
  rw [IntKind.wrap_i64]
  omega
/-- A part of a row. -/
theorem slice_part (g n cap lo hi : Nat) (h1 : lo ≤ hi) (h2 : hi ≤ n) (hc : n ≤ cap) :
    ∃ off, (∀ W, (Instr.sliceAt 33 (.slice (some ⟨g, 0, none⟩) n cap) (some (.int .i64 (lo : Int))) (some (.int .i64 (hi : Int))) none).run Tryd.prog W = .ok (.slice (some ⟨g, off, none⟩) (hi - lo) (cap - lo)) W) ∧
      (∀ w l, Rd w (.slice (some ⟨g, 0, none⟩) n cap) l → Rd w (.slice (some ⟨g, off, none⟩) (hi - lo) (cap - lo)) ((l.drop lo).take (hi - lo))) := by
  refine ⟨if lo < cap then lo else 0, fun W => ?_, fun w l hr => ?_⟩
  · by_cases hlt : lo < cap
    · rw [if_pos hlt]
      exact slice_mid g n cap lo hi h1 (by omega) hlt W
    · obtain rfl : lo = hi := by omega
      obtain rfl : lo = n := by omega
      obtain rfl : lo = cap := by omega
      have hsz := Tryd.size5
      cases hq : Tryd.prog.info? 5 with
      | none => simp [hq] at hsz
      | some i =>
        have hi1 : i.size = 1 := by simpa [hq] using hsz
        simp [Instr.sliceAt, Instr.slice, run_underlying Tryd.underlying33, Instr.sliceBounds, run_sliceBound, sizeOf, typeInfo, hq]
  · have := rd_len hr
    have d1 := hr.drop lo (by omega) (if lo < cap then lo else 0) (by split; exact .inl (by omega); exact .inr (by omega))
    exact d1.take (hi - lo) (by omega)
set_option maxHeartbeats 2000000 in
set_option maxRecDepth 100000 in
theorem rRead_any {w : World} {c : Nat → Nat} {i R n : Nat} {m : DM} (h : IsR w c i R n m) (p k : Int) (hpw : (Lit.int .i64 p).wf = true) (hkw : (Lit.int .i64 k).wf = true) : Calls Tryd.prog 56 #[.pointer (some ⟨R, 0, none⟩), .int .i64 p, .int .i64 k] w fun e w' => ∃ v, e = .returned (.tuple #[v, .int .i64 ((Pd.read m p k).2 : Int)]) ∧ Rd w' v (Pd.read m p k).1 ∧ Below w.heap.size w w' := by
  obtain ⟨vn, vs, vd, vk, hA, hO, hn, -⟩ := h
  have HA : Hid (RAt w R vn vs vd vk m) := hA
  have hnow := hO.now
  obtain ⟨g, cap, hvn, hcap⟩ := Own.some hA.now (by omega)
  have c3 := hA.blk.cell (j := 3) rfl
  have c0 := hA.blk.cell (j := 0) rfl
  have bp := bounds_i64 hpw
  have bk := bounds_i64 hkw
  clear hA
  subst hvn
  obtain ⟨L, HL⟩ : ∃ L, Hid (m.now.length = L) := ⟨_, rfl⟩
  rw [HL.out] at c0 hnow hcap HA
  have HLn : Hid (L = 32 * n ∧ n ≤ 4096) := (show _ from ⟨hnow, hn.2.2⟩)
  have hL : L ≤ 131072 := by omega
  clear hn hO hnow
  go_enter Tryd.func56, Tryd.ntmps56
  cases ho : m.off with
  | true =>
    rw [ho] at c3
    have HE : Hid (Pd.read m p k = ([], 7)) := (show _ = _ by unfold Pd.read; rw [ho]; rfl)
    go_wp2
    go_ret2
    rw [HE.out]
    exact ⟨_, rfl, Rd_nil _, Below.refl _ _⟩
  | false =>
    rw [ho] at c3
    by_cases h1 : p < 0 ∨ k < 0 ∨ (L : Int) < p ∨ (L : Int) - p < k
    · have HE : Hid (Pd.read m p k = ([], 2)) := (show _ = _ by unfold Pd.read; rw [ho, if_neg (by simp), HL.out, if_pos h1])
      by_cases q1 : p < 0
      · have q1' : decide (p < 0) = true := by simpa using q1
        go_wp2
        go_ret2
        rw [HE.out]
        exact ⟨_, rfl, Rd_nil _, Below.refl _ _⟩
      have q1' : decide (p < 0) = false := by simpa using q1
      by_cases q2 : k < 0
      · have q2' : decide (k < 0) = true := by simpa using q2
        go_wp2
        go_ret2
        rw [HE.out]
        exact ⟨_, rfl, Rd_nil _, Below.refl _ _⟩
      have q2' : decide (k < 0) = false := by simpa using q2
      by_cases q3 : (L : Int) < p
      · have q3' : decide ((L : Int) < p) = true := by simpa using q3
        go_wp2
        go_ret2
        rw [HE.out]
        exact ⟨_, rfl, Rd_nil _, Below.refl _ _⟩
      have q3' : decide ((L : Int) < p) = false := by simpa using q3
      have q4 : (L : Int) - p < k := by omega
      have w4 : IntKind.i64.wrap ((L : Int) - p) = (L : Int) - p := wr64 (by omega) (by omega)
      have q4' : decide ((L : Int) - p < k) = true := by simpa using q4
      clear h1
      go_wp2
      go_ret2
      rw [HE.out]
      exact ⟨_, rfl, Rd_nil _, Below.refl _ _⟩
    · have HE : Hid (Pd.read m p k = ((m.now.drop p.toNat).take k.toNat, 0)) := (show _ = _ by unfold Pd.read; rw [ho, if_neg (by simp), HL.out, if_neg h1])
      obtain ⟨p', rfl⟩ : ∃ p' : Nat, p = (p' : Int) := ⟨p.toNat, by omega⟩
      obtain ⟨k', rfl⟩ : ∃ k' : Nat, k = (k' : Int) := ⟨k.toNat, by omega⟩
      have hpk : p' + k' ≤ L := by omega
      have q1' : decide ((p' : Int) < 0) = false := by simp
      have q2' : decide ((k' : Int) < 0) = false := by simp
      have q3' : decide ((L : Int) < (p' : Int)) = false := by simp; omega
      have w4 : IntKind.i64.wrap ((L : Int) - (p' : Int)) = (L : Int) - (p' : Int) := wr64 (by omega) (by omega)
      have q4' : decide ((L : Int) - (p' : Int) < (k' : Int)) = false := by simp; omega
      obtain ⟨e', HE'⟩ : ∃ e', Hid (p' + k' = e') := ⟨_, rfl⟩
      have w5 : IntKind.i64.wrap ((p' : Int) + (k' : Int)) = (e' : Int) := (wr64 (by omega) (by omega)).trans (by have := HE'.out; omega)
      have c0' := (HA.out.blk.alloc (.cells #[] 5 (0, 0))).cell (j := 0) rfl
      have HRn : Hid (Rd w (.slice (some ⟨g, 0, none⟩) L cap) m.now) := HA.out.now.rd
      obtain ⟨off, hsl, hpart⟩ := slice_part g L cap p' e' (by have := HE'.out; omega) (by have := HE'.out; omega) hcap
      have HR : Hid (Rd (w.alloc (.cells #[] 5 (0, 0))) (.slice (some ⟨g, off, none⟩) (e' - p') (cap - p')) ((m.now.drop p').take (e' - p'))) := (hpart w _ HRn.out).kept ((Below.refl _ _).alloc (Nat.le_refl _) _)
      have HLM : Hid (((m.now.drop p').take (e' - p')).length ≤ 131072) := (show _ ≤ _ by have := HL.out; have := HE'.out; simp; omega)
      obtain ⟨X, HX⟩ : ∃ X, Hid ((m.now.drop p').take (e' - p') = X) := ⟨_, rfl⟩
      rw [HX.out] at HR HLM
      have hX := HLM.out
      obtain ⟨i0, hi0, hz0, hz1, hz2⟩ := info_parts Tryd.info5
      clear h1 hpart
      go_wp2_with (first
        | (at_builtin; refine wpList_append_bytes _ rfl _ _ 33 33 rfl w.heap.size i0 Tryd.underlying33 hi0 hz0 hz1 hz2 _ [] rfl (own_none w _ (Nat.le_refl _)) _ X rfl (HR.out.src 33 Tryd.underlying33) (by simp; omega) (by simp) ?_; intro v1 w1 ho1 hb1; have HO1 : Hid (Own w1 w.heap.size v1 ([] ++ X)) := ho1; have HB1 : Hid (Below w.heap.size (w.alloc (.cells #[] 5 (0, 0))) w1) := hb1; clear ho1 hb1)
        | fail)
      go_ret2
      rw [HE.out]
      refine ⟨v1, rfl, ?_, ((Below.refl _ _).alloc (Nat.le_refl _) _).trans HB1.out⟩
      have := Own.rd HO1.out
      rw [List.nil_append, ← HX.out, ← HE'.out] at this
      simpa using this
end Go.Proofs.YtgdhjgfoalianaaDoor

/-
  The reference's disk: Arm.
-/
namespace Go.Proofs.YtgdhjgfoalianaaDoor
open Go.RowKit
open Pd (DM)
/-- What lies in blocks of colour i, or in new ones, is a disk of colour i. -/
theorem IsR.of_at {w w' : World} {c : Nat → Nat} {i R n : Nat} {m : DM} {vn vs vd vk : Value} (hc : Chg (fun k => c k = i) w w') (hA : RAt w' R vn vs vd vk m) (hO : Pd.Ok n m) (hn : Pd.Dark m ∧ 0 < n ∧ n ≤ 4096) (hR : R < w.heap.size → c R = i)
    (h2 : ∀ b, vn.ownBlock = some b → b < w.heap.size → c b = i) (h3 : ∀ b, vs.ownBlock = some b → b < w.heap.size → c b = i) (h4 : ∀ b, vd.ownBlock = some b → b < w.heap.size → c b = i) (h5 : ∀ b, vk.ownBlock = some b → b < w.heap.size → c b = i) (hi : i ≠ 0) :
    IsR w' (paint c w w' i) i R n m ∧ Step c i w (paint c w w' i) w' := by
  have key : ∀ b, b < w'.heap.size → (b < w.heap.size → c b = i) → paint c w w' i b = i := fun b hb h => by
    by_cases e : b < w.heap.size
    · rw [paint_old e]; exact h e
    · exact paint_new (by omega) hb
  exact ⟨⟨vn, vs, vd, vk, hA, hO, hn, key R hA.blk.lt hR, fun b hb => key b (ownB_lt hA.now hb) (h2 b hb), fun b hb => key b (ownB_lt hA.safe hb) (h3 b hb), fun b hb => key b (own_lt hA.dirty hb) (h4 b hb), fun b hb => key b (own_lt hA.keep hb) (h5 b hb), hi⟩, Step.of_paint hc⟩
/-- Numbers appended to a row that was made there and then. -/
theorem arm_new {w w1 : World} {l : List Int} {v1 : Value} (hrow : (w.alloc (.cells #[] 3 (0, 0))).ownsRow w.heap.size 3 1 (.slice (some ⟨w.heap.size, 0, none⟩) 0 0) 0 []) (ho : w1.ownsRow w.heap.size 3 1 v1 (0 + l.length) ([] ++ Ni l)) (hg : (w.alloc (.cells #[] 3 (0, 0))).grownBy w1 (Value.slice (some ⟨w.heap.size, 0, none⟩) 0 0).ownBlock) :
    Hid (OwnN w1 v1 l) ∧ Hid (∀ b, v1.ownBlock = some b → w.heap.size ≤ b) ∧ Hid (Below w.heap.size w w1) := by
  rw [Nat.zero_add, List.nil_append] at ho
  refine ⟨⟨ho.1, ?_⟩, fun b hb => (ho.lt b hb).1, ?_⟩
  · rcases ho.2 with h | ⟨g, cap, cur, hv, hg, r⟩
    · exact .inl h
    · exact .inr ⟨g, cap, cur, hv, Nat.zero_le _, r⟩
  · exact ((Below.refl _ _).alloc (Nat.le_refl _) _).trans (below_of_grown _ hrow hg (by simp))
set_option maxHeartbeats 2000000 in
set_option maxRecDepth 100000 in
theorem rArm_any {w : World} {c : Nat → Nat} {i R n : Nat} {m : DM} (h : IsR w c i R n m) (ops : Int) (hops : (Lit.int .i64 ops).wf = true) (v : Value) (l : List Int) (t : Int) (hr : RdN w v l) (hl : ∀ k ∈ l, (Lit.int .i64 k).wf = true) (hl2 : l.length ≤ 1000000) :
    Calls Tryd.prog 23 #[.pointer (some ⟨R, 0, none⟩), .int .i64 ops, v, .int .i64 t] w fun e w' => e = .returned (.tuple #[]) ∧ ∃ c', IsR w' c' i R n (Pd.arm m ops l t) ∧ Step c i w c' w' := by
  obtain ⟨vn, vs, vd, vk, hA, hO, hn, h1, h2, h3, h4, h5, h6⟩ := h
  have HA : Hid (RAt w R vn vs vd vk m) := hA
  have HR : Hid (RdN w v l) := hr
  have HL : Hid (∀ k ∈ l, (Lit.int .i64 k).wf = true) := hl
  have HO : Hid (Pd.Ok n m) := hO
  have HN : Hid (Pd.Dark m ∧ 0 < n ∧ n ≤ 4096) := hn
  have bo := bounds_i64 hops
  obtain ⟨a, cp, hv, -⟩ := hr
  subst hv
  have hrow : (w.alloc (.cells #[] 3 (0, 0))).ownsRow w.heap.size 3 1 (.slice (some ⟨w.heap.size, 0, none⟩) 0 0) 0 [] := ⟨rfl, .inr ⟨w.heap.size, 0, #[], rfl, Nat.le_refl _, heap_alloc_new w _, Nat.le_refl _, by simp [maxLen], rfl, rfl⟩⟩
  have HROW : Hid ((w.alloc (.cells #[] 3 (0, 0))).ownsRow w.heap.size 3 1 (.slice (some ⟨w.heap.size, 0, none⟩) 0 0) 0 []) := hrow
  obtain ⟨i0, hi0, hz0, hz1, hz2⟩ := info_parts Tryd.info3
  clear hA hl hO hn hrow
  go_enter Tryd.func23, Tryd.ntmps23
  go_upto_region 1 with (first
    | (at_builtin; refine wpList_append_mine _ rfl _ _ 34 34 rfl w.heap.size 3 i0 (.int .i64 0) 1 8 Tryd.underlying34 hi0 hz0 hz1 hz2 rfl (.slice (some ⟨w.heap.size, 0, none⟩) 0 0) 0 [] rfl HROW.out (.slice a l.length cp) l.length (Ni l) rfl (HR.out.kept ((Below.refl _ _).alloc (Nat.le_refl _) _)).src (by simp only [maxLen]; omega) (by omega) (by simp) ?_; intro v1 w1 ho1 hg1; obtain ⟨HO1, HN1, HB1⟩ := arm_new HROW.out ho1 hg1; have hB1 := HA.out.blk.kept HB1.out; have c4 := hB1.cell (j := 4) rfl; have c5 := hB1.cell (j := 5) rfl; have c6 := hB1.cell (j := 6) rfl; have z4 := hB1.frozen 4; have z5 := hB1.frozen 5; have z6 := hB1.frozen 6; clear ho1 hg1 hB1; obtain ⟨a1, cp1, hv1, -⟩ := HO1.out.rd; subst hv1)
    | fail)
  obtain ⟨w2, hw2⟩ : ∃ x, x = ((w1.setCell ⟨R, 4, none⟩ (.int .i64 ops)).setCell ⟨R, 5, none⟩ (.slice a1 l.length cp1)).setCell ⟨R, 6, none⟩ (.int .i64 t) := ⟨_, rfl⟩
  rw [← hw2]
  have HU2 : Hid (Chg (fun k => k = R) w1 w2) := (show Chg _ _ _ by rw [hw2]; exact ((Chg.setCell (F := fun k => k = R) w1 rfl 4 _).trans (Chg.setCell (F := fun k => k = R) _ rfl 5 _)).trans (Chg.setCell (F := fun k => k = R) _ rfl 6 _))
  have HB2 : Hid (Blk w2 R 73 (RC vn vs vd m.off ops (.slice a1 l.length cp1) t)) := (show Blk _ _ _ _ by
    have := (((HA.out.blk.kept HB1.out).set 4 (.int .i64 ops)).set 5 (.slice a1 l.length cp1)).set 6 (.int .i64 t)
    rw [← hw2] at this
    exact this)
  have HRl : Hid (R < w.heap.size) := HA.out.blk.lt
  have z4' := HB2.out.frozen 4
  have c4' := HB2.out.cell (j := 4) rfl
  have HFIN : Hid (∀ (w3 : World) (x : Int), Blk w3 R 73 (RC vn vs vd m.off x (.slice a1 l.length cp1) t) → Chg (fun k => k = R) w2 w3 → x = (ops.toNat : Int) → ∃ c', IsR w3 c' i R n (Pd.arm m ops l t) ∧ Step c i w c' w3) := (show ∀ _ _, _ by
    intro w3 x hB hU hx
    subst hx
    obtain ⟨n1, n2, n3, n4⟩ := HA.out.nR
    have hU3 : Chg (fun k => k = R) w1 w3 := HU2.out.trans hU
    have hC : Chg (fun k => k = R) w w3 := (Chg.of_below HB1.out).trans hU3
    have hK : OwnN w3 (.slice a1 l.length cp1) l := OwnN.chg (w := w1) HO1.out hU3 (fun b hb e => by have h7 := HN1.out b hb; have h8 := HRl.out; omega)
    exact ⟨_, IsR.of_at (m := Pd.arm m ops l t) (hC.mono (fun k _ e => by rw [e]; exact h1)) ⟨hB, ownB_chg HA.out.now hC n1, ownB_chg HA.out.safe hC n2, HA.out.dirty.chg hC n3, hK, HL.out, HA.out.ns, fun b hb hb' => by have h7 := HN1.out b hb'; have h8 := own_lt HA.out.dirty hb; omega, by show ops.toNat ≤ _; omega⟩ (HO.out.arm ops l t) HN.out (fun _ => h1) (fun b hb _ => h2 b hb) (fun b hb _ => h3 b hb) (fun b hb _ => h4 b hb) (fun b hb hlt => absurd (HN1.out b hb) (by omega)) h6⟩)
  clear hw2 c4 c5 c6 z4 z5 z6
  by_cases ho : ops < 1
  · have q1 : decide (ops < 1) = true := by simpa using ho
    go_wp2
    go_end0
    refine ⟨rfl, HFIN.out _ 0 ?_ (Chg.setCell (F := fun k => k = R) _ rfl 4 _) (by omega)⟩
    exact HB2.out.set 4 (.int .i64 0)
  · have q1 : decide (ops < 1) = false := by simpa using ho
    go_wp2
    go_end0
    exact ⟨rfl, HFIN.out w2 ops HB2.out (Chg.refl _ _) (by omega)⟩
end Go.Proofs.YtgdhjgfoalianaaDoor

/-
  The reference's disk: New.
-/
namespace Go.Proofs.YtgdhjgfoalianaaDoor
open Go.RowKit
open Pd (DM)
set_option maxHeartbeats 2000000 in
set_option maxRecDepth 100000 in
theorem rNew_none {w : World} (s : Int) (h : s < 1 ∨ 4096 < s) : Calls Tryd.prog 12 #[.int .i64 s] w fun e w' => e = .returned (.pointer none) ∧ w' = w := by
  go_enter Tryd.func12, Tryd.ntmps12
  by_cases h1 : s < 1
  · have q1 : decide (s < 1) = true := by simpa using h1
    go_wp2
    go_ret
    exact ⟨rfl, rfl⟩
  · have q1 : decide (s < 1) = false := by simpa using h1
    have q2 : decide (4096 < s) = true := by simp; omega
    go_wp2
    go_ret
    exact ⟨rfl, rfl⟩
theorem make_n {i0 : TypeInfo} (hi0 : Tryd.prog.info? 5 = some i0) (hz0 : i0.zero = some (.int .u8 0)) (hz1 : i0.size = 1) (hz2 : i0.bytes = 1) (M : Nat) (hM : M ≤ 1000000) (W : World) :
    (Instr.makeSlice 33 (.int .i64 (M : Int)) (.int .i64 (M : Int))).run Tryd.prog W = .ok (.slice (some ⟨W.heap.size, 0, none⟩) M M) (W.alloc (.cells (Array.replicate M (Value.int .u8 0)) 5)) := by
  have hrun := run_make (P := Tryd.prog) W 33 5 i0 (.int .u8 0) Tryd.underlying33 hi0 hz0 .i64 .i64 M M (by omega) (by omega) (by rw [hz2]; omega) (by omega)
  have e : madeCells (Value.int .u8 0).cells ((M : Int).toNat * i0.size) = Array.replicate M (Value.int .u8 0) := by
    apply Array.ext'
    rw [hz1]
    show (madeCells #[Value.int .u8 0] _).toList = _
    rw [toList_madeCells_one]
    simp
  rw [e] at hrun
  simpa only [Int.toNat_natCast] using hrun
set_option maxHeartbeats 8000000 in
set_option maxRecDepth 100000 in
theorem rNew_go {w : World} (n : Nat) (h1 : 1 ≤ n) (h2 : n ≤ 4096) : Calls Tryd.prog 12 #[.int .i64 (n : Int)] w fun e w' => ∃ G1 G2, e = .returned (.pointer (some ⟨w.heap.size + 2, 0, none⟩)) ∧ G1 ≠ G2 ∧ w.heap.size ≤ G1 ∧ w.heap.size ≤ G2 ∧ G1 < w.heap.size + 2 ∧ G2 < w.heap.size + 2 ∧
    w' = ((w.drew.alloc (.cells (Array.replicate (32 * n) (Value.int .u8 0)) 5 (0, 0))).alloc (.cells (Array.replicate (32 * n) (Value.int .u8 0)) 5 (0, 0))).alloc (.cells (RC (.slice (some ⟨G1, 0, none⟩) (32 * n) (32 * n)) (.slice (some ⟨G2, 0, none⟩) (32 * n) (32 * n)) (.slice none 0 0) false 0 (.slice none 0 0) 0).toArray 73 (0, 0)) := by
  have q1 : decide ((n : Int) < 1) = false := by simp; omega
  have q2 : decide (4096 < (n : Int)) = false := by simp; omega
  obtain ⟨i0, hi0, hz0, hz1, hz2⟩ := info_parts Tryd.info5
  obtain ⟨M, HM⟩ : ∃ M, Hid (32 * n = M) := ⟨_, rfl⟩
  have hM : M ≤ 1000000 := by have := HM.out; omega
  have w5 : IntKind.i64.wrap ((n : Int) * 32) = (M : Int) := (wr64 (by omega) (by omega)).trans (by have := HM.out; omega)
  rw [HM.out]
  have hmk := make_n hi0 hz0 hz1 hz2 M hM
  clear hi0 hz0 hz1 hz2
  go_enter Tryd.func12, Tryd.ntmps12
  go_upto_region 3 with fail
  refine Code.wp_mono (Q := fun e a' w' => ∃ G1 G2, e = .normal ∧ a'.eval (.tmp 2) = .pointer (some ⟨w.heap.size + 2, 0, none⟩) ∧ a'.defers = [] ∧ a'.tmps.size = 17 ∧ G1 ≠ G2 ∧ w.heap.size ≤ G1 ∧ w.heap.size ≤ G2 ∧ G1 < w.heap.size + 2 ∧ G2 < w.heap.size + 2 ∧
    w' = ((w.drew.alloc (.cells (Array.replicate M (Value.int .u8 0)) 5 (0, 0))).alloc (.cells (Array.replicate M (Value.int .u8 0)) 5 (0, 0))).alloc (.cells (RC (.slice (some ⟨G1, 0, none⟩) M M) (.slice (some ⟨G2, 0, none⟩) M M) (.slice none 0 0) false 0 (.slice none 0 0) 0).toArray 73 (0, 0))) ?_ ?_
  · rintro e a' w1 ⟨G1, G2, rfl, he, hd, hs, hG⟩
    have HG : Hid _ := hG
    rw [act_lit a' 17 hs]
    simp only [List.range, List.range.loop, List.map_cons, List.map_nil, he, hd]
    clear hG hmk
    go_wp2
    go_ret
    obtain ⟨g1, g2, g3, g4, g5, g6⟩ := HG.out
    exact ⟨G1, G2, rfl, g1, g2, g3, g4, g5, g6⟩
  · go_region
    · exact ⟨w.heap.size, w.heap.size + 1, rfl, rfl, rfl, rfl, by omega, by omega, by omega, by omega, by omega, rfl⟩
    · exact ⟨w.heap.size + 1, w.heap.size, rfl, rfl, rfl, rfl, by omega, by omega, by omega, by omega, by omega, rfl⟩
theorem own_of_blkR {w : World} {g : Nat} {l : List UInt8} (h : Blk w g 5 (By l)) (hl : l.length ≤ maxLen) : Own w 0 (.slice (some ⟨g, 0, none⟩) l.length l.length) l :=
  ⟨by rw [By_length]; omega, .inr ⟨g, l.length, (By l).toArray, rfl, Nat.zero_le _, h, Nat.le_refl _, hl, by simp [By_length], by rw [List.take_of_length_le (by simp [By_length])]⟩⟩
theorem rNew_any (w : World) (c : Nat → Nat) (i : Nat) (hi : i ≠ 0) (n : Nat) (h1 : 1 ≤ n) (h2 : n ≤ 4096) :
    Calls Tryd.prog 12 #[.int .i64 (n : Int)] w fun e w' => ∃ R, e = .returned (.pointer (some ⟨R, 0, none⟩)) ∧ ∃ c', IsR w' c' i R n (Pd.new n) ∧ Step c i w c' w' ∧ Below w.heap.size w w' ∧ w.heap.size ≤ R := by
  refine (rNew_go n h1 h2).mono ?_
  rintro e w' ⟨G1, G2, rfl, hG, g1, g2, g3, g4, hw⟩
  have hz : Array.replicate (32 * n) (Value.int .u8 0) = (By (List.replicate (32 * n) 0)).toArray := by simp [By]
  rw [hz] at hw
  obtain ⟨w1, hw1⟩ : ∃ x, x = w.drew.alloc (.cells (By (List.replicate (32 * n) 0)).toArray 5 (0, 0)) := ⟨_, rfl⟩
  obtain ⟨w2, hw2⟩ : ∃ x, x = w1.alloc (.cells (By (List.replicate (32 * n) 0)).toArray 5 (0, 0)) := ⟨_, rfl⟩
  rw [← hw1, ← hw2] at hw
  have s1 : w1.heap.size = w.heap.size + 1 := by rw [hw1]; simp
  have s2 : w2.heap.size = w.heap.size + 2 := by rw [hw2]; simp [s1]
  have bel : Below w.heap.size w w' := by
    rw [hw]
    refine Below.alloc ?_ (by omega) _
    rw [hw2]
    refine Below.alloc ?_ (by omega) _
    rw [hw1]
    exact (below_drewN w _ 1).alloc (Nat.le_refl _) _
  have b1 : Blk w2 w.heap.size 5 (By (List.replicate (32 * n) 0)) := by
    rw [hw2, hw1]
    exact (Blk.new w.drew 5 _).alloc _
  have b2 : Blk w2 (w.heap.size + 1) 5 (By (List.replicate (32 * n) 0)) := by
    rw [hw2, ← s1]
    exact Blk.new w1 5 _
  have bG : ∀ G, w.heap.size ≤ G → G < w.heap.size + 2 → Blk w' G 5 (By (List.replicate (32 * n) 0)) := fun G l1 l2 => by
    rw [hw]
    rcases (show G = w.heap.size ∨ G = w.heap.size + 1 by omega) with h | h <;> rw [h]
    · exact b1.alloc _
    · exact b2.alloc _
  have hB := Blk.new w2 73 (RC (.slice (some ⟨G1, 0, none⟩) (32 * n) (32 * n)) (.slice (some ⟨G2, 0, none⟩) (32 * n) (32 * n)) (.slice none 0 0) false 0 (.slice none 0 0) 0)
  rw [← hw, s2] at hB
  have hO : ∀ G, w.heap.size ≤ G → G < w.heap.size + 2 → Own w' 0 (.slice (some ⟨G, 0, none⟩) (32 * n) (32 * n)) (List.replicate (32 * n) 0) := fun G l1 l2 => by
    have := own_of_blkR (bG G l1 l2) (by simp [maxLen]; omega)
    simpa using this
  have hA : RAt w' (w.heap.size + 2) (.slice (some ⟨G1, 0, none⟩) (32 * n) (32 * n)) (.slice (some ⟨G2, 0, none⟩) (32 * n) (32 * n)) (.slice none 0 0) (.slice none 0 0) (Pd.new n) :=
    ⟨hB, hO G1 g1 g3, hO G2 g2 g4, OwnN_nil w', OwnN_nil w', fun k hk => by simp [Pd.new] at hk, fun b e1 e2 => by cases e1; cases e2; exact hG rfl, fun b e1 => (by cases e1), Nat.zero_le _⟩
  obtain ⟨k1, k2⟩ := IsR.of_at (c := c) (Chg.of_below bel) hA (Pd.ok_new n) ⟨fun _ => rfl, h1, h2⟩ (fun h => absurd h (by omega)) (fun b e h => by cases e; exact absurd h (by show ¬ G1 < _; omega)) (fun b e h => by cases e; exact absurd h (by show ¬ G2 < _; omega)) (fun b e => by cases e) (fun b e => by cases e) hi
  exact ⟨w.heap.size + 2, rfl, _, k1, k2, bel, by omega⟩
end Go.Proofs.YtgdhjgfoalianaaDoor
