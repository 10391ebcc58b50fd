/-
  The reference's Scan: what the call does, whatever bytes come in.
-/
import Derived.Test.YtgdhjgfoalianaaDoorGWb
namespace Go.Proofs.YtgdhjgfoalianaaDoor
open Go.RowKit

theorem okAt_of {b t : List UInt8} {p sz : Nat} (ho : opn (b.drop p) = (t, sz, true)) : okAt b p = (decide (p + ru sz ≤ b.length) && nought ((b.drop (p + sz)).take (ru sz - sz))) := by
  unfold okAt; rw [ho]; simp
theorem nought_snoc {l : List UInt8} {j : Nat} (h : nought (l.take j) = true) (hj : j < l.length) (h0 : l[j] = 0) : nought (l.take (j + 1)) = true := by
  rw [← List.take_append_getElem hj]
  unfold nought at *
  simp [h0]
  simpa using h
theorem nought_not {l : List UInt8} {j k : Nat} (hj : j < l.length) (hk : j < k) (h0 : l[j] ≠ 0) : nought (l.take k) = false := by
  have hm : l[j] ∈ l.take k := List.mem_take_iff_getElem.2 ⟨j, by omega, rfl⟩
  cases h : nought (l.take k) with
  | false => rfl
  | true =>
    unfold nought at h
    rw [List.all_eq_true] at h
    have := h _ hm
    simp at this
    exact absurd this h0

theorem row_below {w w' : World} {B e size n : Nat} {v : Value} {us : List Value} (h : w.ownsRow B e size v n us) (hb : Below w.heap.size w w') : w'.ownsRow B e size v n us := by
  obtain ⟨q1, q2⟩ := h
  refine ⟨q1, ?_⟩
  rcases q2 with q2 | ⟨g, cp, cur, hv, hg, hh, q⟩
  · exact .inl q2
  · exact .inr ⟨g, cp, cur, hv, hg, (hb.block g (Array.getElem?_eq_some_iff.1 hh).1).trans hh, q⟩

set_option maxRecDepth 100000 in
set_option maxHeartbeats 4000000 in
theorem qscan_any (v : Value) (b : List UInt8) (w : World) (hr : Rd w v b) (hl : b.length ≤ 1000000) :
    Calls Tryd.prog 30 #[v] w fun e w' => ∃ u, e = .returned (.tuple #[u, .int .i64 (ends b : Int)]) ∧ OwnR w' w.heap.size u (texts b) ∧ Below w.heap.size w w' := by
  obtain ⟨a, cap, hv⟩ := hr.slice
  subst hv
  have hcap := rd_cap hr
  obtain ⟨i0, hi, hz0, hz1, hz2⟩ := info_parts Tryd.infoB
  have HR := hide hr
  have HS : Hid (∃ f, frs b f 0 = frs b (b.length / 32 + 1) 0 ∧ b.length < 0 + 32 * f) := ⟨_, rfl, by omega⟩
  clear hr
  go_enter Tryd.func30, Tryd.ntmps30
  go_wp2_with fail
  go_loopg [4, 5] (b.length / 32 + 2) (fun g x y wr => ∃ (pre : List Frm) (p : Nat), Hid (wr.ownsRow w.heap.size 33 1 x pre.length (pre.map (·.2.1))) ∧ Hid (∀ z ∈ pre, Own wr w.heap.size z.2.1 z.2.2) ∧ y = .int .i64 (p : Int) ∧ p % 32 = 0 ∧ p ≤ b.length ∧ Hid (Below w.heap.size w wr) ∧ Hid (pre.length + g = b.length / 32 + 2) ∧
      Hid (∃ f, pre.map (fun z => (z.1, z.2.2)) ++ frs b f p = frs b (b.length / 32 + 1) 0 ∧ b.length < p + 32 * f) ∧ Hid (lastN (pre.map (fun z => (z.1, z.2.2))) = p))
  case atStart => exact ⟨[], 0, World.ownsRow_nil _ _ _ _, fun z hz => by simp at hz, rfl, rfl, Nat.zero_le _, Below.refl _ _, (show _ = _ by simp), HS, rfl⟩
  case round =>
    obtain ⟨pre, p, RW, TX, rfl, hp, hpb, BL, HG, HF, LN⟩ := hrel
    have HRr : Hid (Rd wr (.slice a b.length cap) b) := HR.out.kept BL.out
    obtain ⟨a', hsl, hrd, -⟩ := slice_from (P := Tryd.prog) Tryd.underlying33 Tryd.size5 a b.length cap p hpb hcap
    have HD : Hid (Rd wr (.slice a' (b.length - p) (cap - p)) (b.drop p)) := hrd _ _ HRr.out
    clear hrd
    obtain ⟨t, sz, ok, ho⟩ : ∃ t sz ok, opn (b.drop p) = (t, sz, ok) := ⟨_, _, _, rfl⟩
    have HO := hide ho
    clear ho
    go_wp2_with fail
    refine (refOpen_any _ (b.drop p) _ HD.out (by simp; omega)).mono ?_
    intro e w1 hop
    unfold OpenPost at hop
    rw [HO.out] at hop
    obtain ⟨v1, rfl, ho1, hb1⟩ := hop
    have HO1 : Hid (Own w1 w.heap.size v1 t) := ho1.mono BL.out.size
    have BL1 : Hid (Below w.heap.size w w1) := BL.out.trans (hb1.mono BL.out.size)
    have HR1 : Hid (Rd w1 (.slice a b.length cap) b) := HRr.out.kept hb1
    have TX1 : Hid (∀ z ∈ pre, Own w1 w.heap.size z.2.1 z.2.2) := fun z hz => (TX.out z hz).kept hb1
    have RW1 : Hid (w1.ownsRow w.heap.size 33 1 u4 pre.length (pre.map (·.2.1))) := row_below RW.out hb1
    have hs8 : p + sz ≤ b.length := by
      cases ok with
      | true => have := opn_size (l := b.drop p) (by rw [HO.out]); rw [HO.out] at this; simp at this; omega
      | false => have := opn_none (l := b.drop p) (by rw [HO.out]); rw [HO.out] at this; simp at this; omega
    have hrest : okAt b p = false → ∃ u, Ending.returned (.tuple #[u4, .int .i64 (p : Int)]) = Ending.returned (.tuple #[u, .int .i64 (ends b : Int)]) ∧ OwnR w1 w.heap.size u (texts b) ∧ Below w.heap.size w w1 := fun hno => by
      obtain ⟨f, hf, -⟩ := HF.out
      rw [frs_stop hno, List.append_nil] at hf
      refine ⟨u4, by rw [ends, ← hf, LN.out], ?_, BL1.out⟩
      have hx : texts b = pre.map (·.2.2) := by unfold texts; rw [← hf]; simp
      rw [hx]
      refine ⟨pre.map (·.2.1), by simp, by rw [List.length_map]; exact RW1.out, fun j q1 q2 => ?_⟩
      simp only [List.getElem_map]
      exact TX1.out _ (List.getElem_mem _)
    have HE := hide hrest
    clear hrest ho1 hb1
    cases ok with
    | false =>
      have hno : okAt b p = false := by unfold okAt; rw [HO.out]; rfl
      go_wp2_with fail
      go_ret2
      exact HE.out hno
    | true =>
      have hok := okAt_of HO.out
      have HOK := hide hok
      clear hok
      have hru1 := ru_lt sz
      have hru2 := ru_ge sz
      have hru3 := ru_mod sz
      have hsz := opn_size (l := b.drop p) (by rw [HO.out])
      rw [HO.out] at hsz
      simp only at hsz
      have hN1 : 32 ≤ ru sz := ru_pos (by omega)
      obtain ⟨N, hN⟩ : ∃ N, N = ru sz := ⟨_, rfl⟩
      rw [← hN] at hru1 hru2 hru3 hN1 HOK
      have HN := hide hN
      clear hN
      obtain ⟨gk1, HGK⟩ : ∃ g, Hid (gk = g) := ⟨_, rfl⟩
      obtain ⟨a0, cap0, e0, -, -, -, hcell0⟩ := HR1.out
      obtain ⟨bb, off, haa, -, hcell⟩ := hcell0 (by omega)
      clear hcell0
      simp only [Value.slice.injEq] at e0
      obtain ⟨e0, -, -⟩ := e0
      subst haa
      subst e0
      have HCE := hide hcell
      clear hcell
      go_wp2_with fail
      go_loopg [9] (N - sz) (fun g x wr => ∃ j : Nat, x = .int .i64 ((p + sz + j : Nat) : Int) ∧ g + j = N - sz ∧ p + sz + j ≤ b.length ∧ Hid (nought ((b.drop (p + sz)).take j) = true) ∧ wr = w1)
      case atStart => exact ⟨0, by simp, rfl, by omega, rfl, rfl⟩
      case round =>
        obtain ⟨j, rfl, hgj, hjb, HNJ, hw⟩ := hrel
        subst wr
        obtain ⟨E, hE⟩ : ∃ E, E = p + sz + j := ⟨_, rfl⟩
        rw [← hE] at hjb ⊢
        by_cases hjN : j < N - sz
        · have hq1 : ¬ (E : Int) % 32 = 0 := by omega
          have hq2 : ¬ (E : Int).tmod 32 = 0 := by rw [Int.tmod_eq_emod_of_nonneg (by omega)]; exact hq1
          by_cases hEb : E < b.length
          · have hq3 : ¬ (b.length : Int) ≤ (E : Int) := by omega
            have hj' : j < (b.drop (p + sz)).length := by simp; omega
            have hx : (b.drop (p + sz))[j] = b[E] := by simp [hE]
            have hcx := HCE.out E _ (By_get hEb)
            have HX := hide hx
            have hb9 : E ≤ 1000000 := by omega
            have HEE := hide hE
            have HGJ := hide hgj
            clear hx hE hgj
            by_cases h0 : b[E] = 0
            · have HN2 : Hid (nought ((b.drop (p + sz)).take (j + 1)) = true) := nought_snoc HNJ.out hj' (by rw [HX.out]; exact h0)
              rw [h0] at hcx
              clear h0 HX hj'
              go_wp2_with fail
              go_roundg (gk - 1)
              case measure => have := HGJ.out; omega
              case rel => exact ⟨j + 1, by rw [HEE.out]; push_cast; rfl, by have := HGJ.out; omega, by have := HEE.out; omega, HN2, rfl⟩
            · have HNO : Hid (okAt b p = false) := by
                show okAt b p = false
                rw [HOK.out, nought_not hj' hjN (by rw [HX.out]; exact h0), Bool.and_false]
              have h1 : ¬ (b[E].toNat : Int) = 0 := fun e => h0 (UInt8.toNat_inj.1 (by simpa using e))
              generalize b[E] = z at hcx h1
              clear h0 HX hj'
              go_wp2_with fail
              go_ret2
              exact HE.out HNO.out
          · have hq3 : (b.length : Int) ≤ (E : Int) := by omega
            have HNO : Hid (okAt b p = false) := by
              show okAt b p = false
              rw [HOK.out, decide_eq_false (by omega), Bool.false_and]
            clear hE hgj
            go_wp2_with fail
            go_ret2
            exact HE.out HNO.out
        · have hq1 : (E : Int) % 32 = 0 := by omega
          have hq2 : (E : Int).tmod 32 = 0 := by rw [Int.tmod_eq_emod_of_nonneg (by omega)]; exact hq1
          have hEN : E = p + N := by omega
          have HOKT : Hid (okAt b p = true) := by
            show okAt b p = true
            rw [HOK.out, decide_eq_true (by omega), ← show j = N - sz by omega, HNJ.out]; rfl
          have hpl : pre.length < b.length / 32 + 1 := by
            obtain ⟨f, hf, hlt⟩ := HF.out
            have h1 := frs_length b (b.length / 32 + 1) 0
            cases f with
            | zero => omega
            | succ f =>
              rw [← hf, frs_go HOKT.out] at h1
              simp at h1
              omega
          obtain ⟨ua, uc, hu⟩ := HO1.out.form
          subst hu
          clear hq1 hgj hE
          have hbs := BL1.out.size
          go_wp2_with (first
            | (at_builtin; refine wpList_append_own _ rfl _ _ 49 rfl w.heap.size 33 i0 (.slice none 0 0) 1 24 Tryd.underlying49 hi hz0 hz1 hz2 rfl (by decide) u4 _ _ rfl (RW1.out.alloc _) ⟨w1.heap.size, 0, none⟩ 1 1 [.slice ua t.length uc] rfl rfl (cell_one_new _ _ _) (by simp [Value.oneCell']) (by simp only [maxLen]; omega) (by omega) (by simp; omega) ?_; intro v' w2 hown' hgrow _))
          replace hgrow : (w1.alloc (.cells #[Value.slice ua t.length uc] 33)).grownBy w2 u4.ownBlock := hgrow
          have hch : Below w.heap.size w w2 := (BL1.out.alloc hbs _).grown hgrow (by simp; omega) (fun k hk => by
            rcases RW1.out.2 with ⟨e, _⟩ | ⟨q, _, _, e, hq, _⟩
            · rw [e] at hk
              simp [Value.ownBlock] at hk
            · rw [e] at hk
              have : q = k := by simpa [Value.ownBlock] using hk
              omega)
          have hold : ∀ y : Value, ∀ m : List UInt8, Own w1 w.heap.size y m → Own w2 w.heap.size y m := fun y m hy =>
            (hy.kept ((Below.refl _ _).alloc (Nat.le_refl _) _)).past (RW1.out.alloc _) hgrow
          go_roundg (gk1 - 1)
          case measure => have := HG.out; have := HGK.out; omega
          case rel =>
            obtain ⟨f, hf, hlt⟩ := HF.out
            refine ⟨pre ++ [(p + N, .slice ua t.length uc, t)], p + N, ?_, ?_, by simp, by omega, by omega, hch, (show _ = _ by have := HG.out; have := HGK.out; simp; omega), ?_, ?_⟩
            · show w2.ownsRow _ _ _ _ _ _
              simpa using hown'
            · intro z hz
              rcases List.mem_append.1 hz with hz | hz
              · exact hold _ _ (TX1.out z hz)
              · simp at hz
                subst hz
                exact hold _ _ HO1.out
            · cases f with
              | zero => omega
              | succ f =>
                refine ⟨f, ?_, by omega⟩
                rw [frs_go HOKT.out, HO.out] at hf
                simp only [← HN.out] at hf
                rw [← hf]
                simp
            · show lastN _ = _
              rw [List.map_append, List.map_cons, List.map_nil, lastN_snoc]
#print axioms qscan_any
end Go.Proofs.YtgdhjgfoalianaaDoor
