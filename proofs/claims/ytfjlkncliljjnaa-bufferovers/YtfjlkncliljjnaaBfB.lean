/-
  The document's Buffer in memory: its put.
-/
import Derived.Test.YtfjlkncliljjnaaBfE
import Derived.Lib.QuietBelow
namespace Go.Proofs.Ytfjlkncliljjnaa
open Go.RowKit
section
variable {α : Type} {E : Enc α}
/-- Append to a row that is full, of something: a new row. -/
theorem run_append_full {P : Program} (w : World) (base : Nat) (t tx ty e : TypeId) (i : TypeInfo) (z : Value) (bytes : Nat) (ht : P.underlying t = some (.slice e)) (hi : P.info? e = some i) (hz : i.zero = some z)
    (hsize : i.size = E.n) (hby : i.bytes = bytes) (hzs : z.cells.size = E.n) (a : Option Addr) (n : Nat) (L : List α) (hr : RdG E w (.slice a n n) L) (x : Value) (M : List α) (hs : Src P E.n tx x M.length (E.cs M) w) (hm : 0 < M.length)
    (h63 : n + M.length ≤ maxLen) (hbytes : (n + M.length) * bytes ≤ 140737488355328) (hbase : base ≤ w.heap.size) :
    ∃ v' w', (Builtin.append_ #[t, tx] ty #[.slice a n n, x]).run P w = .ok v' w' ∧ OwnG E w' base e v' (L ++ M) ∧ Below w.heap.size w w' ∧ ∀ b, v'.ownBlock = some b → b = w.heap.size := by
  subst hby
  have hln := hr.len
  have hsmall : n + M.length ≤ 9223372036854775807 := by simp only [maxLen] at h63; omega
  have hold : (Builtin.firstCells i.size n (.slice a n n)).run P w.drew = .ok (E.cs L).toArray w.drew := by
    obtain ⟨a', cap', e', h1, h2, h3, h4⟩ := hr
    simp only [Value.slice.injEq] at e'
    obtain ⟨rfl, -, rfl⟩ := e'
    cases a with
    | none =>
      have hn0 := h3 rfl
      have hL : L = [] := List.eq_nil_of_length_eq_zero (by omega)
      subst hL
      exact run_firstCells_none w.drew i.size n n n
    | some b =>
      refine run_firstCells_some w.drew i.size n b n n (E.cs L) (by rw [Enc.cs_length, hsize, hln]) (fun j u hj => ?_)
      have hp : 0 < L.length := by
        have := (List.getElem?_eq_some_iff.1 hj).1
        rw [Enc.cs_length] at this
        exact Nat.pos_of_ne_zero fun h0 => by rw [h0] at this; omega
      obtain ⟨b', off, eb, -, hc⟩ := h4 hp
      cases eb
      rw [Addr.add_mid]
      exact hc j u hj
  have hs' : Src P i.size tx x M.length (E.cs M) w := by rw [hsize]; exact hs
  have hrun := run_append_grow_src (P := P) w t tx ty e i z ht hi hz a n n (E.cs L) hold x M.length (E.cs M) hs' (by omega) (by omega) (growslice_fits (by omega) hbytes)
  have hge := grownCap_ge w (n + M.length) n e
  have hcm : grownCap w (n + M.length) n e ≤ maxLen := grownCap_le_maxLen w (n + M.length) n e h63
  refine ⟨_, _, hrun, ?_, ⟨rfl, rfl, rfl, by simp, fun k hk => Below.heap_alloc w.drew _ k hk⟩, fun b hb => by simpa [Value.ownBlock] using hb.symm⟩
  have hlen : (E.cs L ++ E.cs M).length = (n + M.length) * E.n := by rw [← Enc.cs_append, Enc.cs_length, List.length_append, hln]
  unfold OwnG
  rw [Enc.cs_append, List.length_append, hln]
  refine ⟨hlen, .inr ⟨w.heap.size, _, _, rfl, hbase, heap_alloc_new w.drew _, hge, hcm, ?_, ?_⟩⟩
  · simp only [Array.size_append, List.size_toArray, size_zeroCells, hzs, hlen, ← Nat.add_mul]
    congr 1
    omega
  · simp only [Array.toList_append]
    rw [← hlen]
    exact List.take_left
/-- Append to a row that is full, of what there is. -/
theorem run_append_rd {P : Program} (w : World) (t tx ty e : TypeId) (i : TypeInfo) (z : Value) (bytes : Nat) (ht : P.underlying t = some (.slice e)) (hi : P.info? e = some i) (hz : i.zero = some z)
    (hsize : i.size = E.n) (hby : i.bytes = bytes) (hzs : z.cells.size = E.n) (g : Addr) (n : Nat) (L : List α) (hr : RdG E w (.slice (some g) n n) L) (x : Value) (M : List α) (hs : Src P E.n tx x M.length (E.cs M) w)
    (h63 : n + M.length ≤ maxLen) (hbytes : (n + M.length) * bytes ≤ 140737488355328) :
    ∃ v' w', (Builtin.append_ #[t, tx] ty #[.slice (some g) n n, x]).run P w = .ok v' w' ∧ RdG E w' v' (L ++ M) ∧ Below w.heap.size w w' := by
  by_cases hm : M.length = 0
  · have hM : M = [] := List.eq_nil_of_length_eq_zero hm
    subst hM
    refine ⟨.slice (some g) n n, w, ?_, by rw [List.append_nil]; exact hr, Below.refl _ _⟩
    have h1 := hs.len
    have h2 := hs.cells
    simp only [List.length_nil, Enc.cs_nil] at h1 h2
    rcases hs.kind with ⟨e', hk⟩ | hk <;> simp [Builtin.append_, run_underlying ht, run_underlying hk, sizeOf, typeInfo, hi, h1, h2, hsize, storeCells]
  · obtain ⟨v', w', h1, h2, h3, -⟩ := run_append_full (E := E) (P := P) w 0 t tx ty e i z bytes ht hi hz hsize hby hzs (some g) n L hr x M hs (by omega) h63 hbytes (Nat.zero_le _)
    exact ⟨v', w', h1, h2.rd, h3⟩
/-- The first j, with no room behind. -/
theorem slice_G_cap {P : Program} {t e : TypeId} (ht : P.underlying t = some (.slice e)) (hsz : (P.info? e).map (·.size) = some E.n) (a : Option Addr) (n cap j : Nat) (hj : j ≤ n) (hn : n ≤ cap) :
    (∀ W, (Instr.sliceAt t (.slice a n cap) none (some (.int .i64 (j : Int))) (some (.int .i64 (j : Int)))).run P W = .ok (.slice a j j) W) ∧
      (∀ w (L : List α), RdG E w (.slice a n cap) L → RdG E w (.slice a j j) (L.take j)) := by
  have e2 : (j : Int) ≤ (cap : Int) := by omega
  refine ⟨fun W => ?_, fun w L hr => ?_⟩
  · cases hq : P.info? e with
    | none => simp [hq] at hsz
    | some k =>
      cases a <;> simp [Instr.sliceAt, Instr.slice, run_underlying ht, Instr.sliceBounds, run_sliceBound, e2, sizeOf, typeInfo, hq, Addr.add]
  · obtain ⟨a0, cap0, e, h1, h2, h3, h4⟩ := hr
    simp only [Value.slice.injEq] at e
    obtain ⟨rfl, rfl, rfl⟩ := e
    refine ⟨a, j, by rw [List.length_take]; congr 1; omega, by rw [List.length_take]; omega, by omega, fun h => by have := h3 h; omega, fun hp => ?_⟩
    rw [List.length_take] at hp
    obtain ⟨b, off, rfl, hlt, hcell⟩ := h4 (by omega)
    refine ⟨b, off, rfl, hlt, fun k u hk => hcell k u ?_⟩
    rw [Enc.cs_take] at hk
    have : k < j * E.n := by have := (List.getElem?_eq_some_iff.1 hk).1; rw [List.length_take] at this; omega
    rwa [List.getElem?_take_of_lt this] at hk
end
/-- The document's Buffer at block R has the pairs L. -/
structure RBf (w : World) (R : Nat) (vr : Value) (L : List Pr) : Prop where
  d : Blk w R 30 [vr]
  own : OwnG PE w 0 38 vr L
theorem RBf.kept {w w' : World} {R : Nat} {vr : Value} {L : List Pr} (h : RBf w R vr L) (hb : Below w.heap.size w w') : RBf w' R vr L := ⟨h.d.kept hb, h.own.kept hb⟩
theorem RBf.chg {w w' : World} {R : Nat} {vr : Value} {L : List Pr} (h : RBf w R vr L) {F : Nat → Prop} (hc : Chg F w w') (hR : ¬ F R) (hF : ∀ b, vr.ownBlock = some b → ¬ F b) : RBf w' R vr L := ⟨h.d.chg hc hR, h.own.chg hc hF⟩
/-- A row of pairs is no Buffer. -/
theorem own_ne {w : World} {B R : Nat} {v u : Value} {L : List Pr} (ho : OwnG PE w B 38 v L) (hd : Blk w R 30 [u]) {b : Nat} (hb : v.ownBlock = some b) : b ≠ R := by
  obtain ⟨_, _, cur, hcur⟩ := ho.block hb
  rintro rfl
  have := hd.symm.trans hcur
  simp at this
theorem wpList_build_row0 {ops : Array Oper} {rest : List Oper} {o : Oper} {a : Act} {w : World} {Q : Exit → Act → World → Prop} (hgd : o.guard = none) (ho : o.op = .buildSlice 28 0 #[])
    (h : wpList Try.prog ops Q rest (a.put o.dst (.slice (some ⟨w.heap.size, 0, none⟩) 0 0)) (w.alloc (.cells #[] 38 (0, 0)))) : wpList Try.prog ops Q (o :: rest) a w := by
  refine wpList_plain hgd fun K hK => ?_
  have hr := build_row0 w
  unfold Oper.wp execOp
  simp only [ho, hr, List.map_toArray, List.map_nil, Sem.run_bind, Sem.run_pure, Result.andThen_ok]
  exact hK _ _ h
theorem getB_at {L : List Pr} {k : ByteArray} (hs : Bs L) {i : Nat} (hi : i < L.length) (hlb : lbB L k = i) : getB L k = if L[i].1 = k then some L[i] else none := by
  rw [getB_lb hs, hlb, List.getElem?_eq_getElem hi]
  rfl
theorem getB_end {L : List Pr} {k : ByteArray} (hs : Bs L) (hlb : lbB L k = L.length) : getB L k = none := by
  rw [getB_lb hs, hlb, List.getElem?_eq_none (Nat.le_refl _)]
  rfl
theorem insB_same {L : List Pr} {p : Pr} {i : Nat} (hi : i < L.length) (hlb : lbB L p.1 = i) (hk : L[i].1 = p.1) : insB p L = L.set i p := by
  rw [insB_at, hlb, List.getElem?_eq_getElem hi, List.set_eq_take_append_cons_drop, if_pos hi]
  simp [hk]
theorem insB_new {L : List Pr} {p : Pr} {i : Nat} (hs : Bs L) (hlb : lbB L p.1 = i) (hk : getB L p.1 = none) : insB p L = L.take i ++ ([p] ++ L.drop i) := by
  rw [insB_at, hlb]
  rw [getB_lb hs, hlb] at hk
  cases h : L[i]? with
  | none => simp
  | some x =>
    rw [h] at hk
    by_cases e : x.1 = p.1
    · simp [e] at hk
    · simp [e]
theorem lb_is {L : List Pr} {k : ByteArray} (hs : Bs L) {i : Nat} (hi : i < L.length) : lt L[i].1 k = decide (i < lbB L k) := by
  by_cases h : i < lbB L k
  · rw [lbB_below hi h, decide_eq_true h]
  · rw [decide_eq_false h]
    have hl : lbB L k < L.length := by omega
    have h1 := lbB_at hl
    by_cases e : lbB L k = i
    · subst e; exact h1
    · have h2 : lt (L[lbB L k]).1 L[i].1 = true := List.pairwise_iff_getElem.1 hs _ _ hl hi (by omega)
      cases h3 : lt L[i].1 k with
      | false => rfl
      | true => rw [lt_trans h2 h3] at h1; cases h1
set_option maxRecDepth 100000 in
set_option maxHeartbeats 8000000 in
theorem rput_any {w : World} {R : Nat} {vr : Value} {L : List Pr} (h : RBf w R vr L) (hs : Bs L) (hl64 : L.length ≤ 64) (p : Pr) :
    Calls Try.prog 27 #[PT R, .agg (PC p).toArray] w fun e w' => e = .returned (.int .i64 (wrE L p)) ∧ ∃ vr', RBf w' R vr' (wrB L p) ∧ Chg (fun b => b = R) w w' := by
  have HS := hide h
  have HSS := hide hs
  obtain ⟨a, cp, rfl⟩ := h.own.rd.slice
  have hcp : L.length ≤ cp := h.own.rd.cap
  clear h hs
  obtain ⟨n_, HN⟩ : ∃ n, Hid (L.length = n) := ⟨_, rfl⟩
  rw [HN.out] at HS hl64 hcp
  obtain ⟨ks, HKS⟩ : ∃ N, Hid (p.1.size = N) := ⟨_, rfl⟩
  obtain ⟨vs, HVS⟩ : ∃ N, Hid (p.2.1.size = N) := ⟨_, rfl⟩
  have HW : Hid (∀ e, wrE L p = e → e ≠ 0 → wrB L p = L) := (show _ from fun e he hn => by unfold wrB; rw [if_neg (by rw [he]; exact hn)])
  have HW0 : Hid (wrE L p = 0 → wrB L p = insB p L) := (show _ from fun he => by unfold wrB; rw [if_pos he])
  have hls : ∀ W, (Builtin.len_ #[9] 3 #[.string p.1]).run Try.prog W = .ok (.int .i64 (ks : Int)) W := fun W => by rw [← HKS.out]; simp [Builtin.len_, go_sem]
  have hlv : ∀ W, (Builtin.len_ #[9] 3 #[.string p.2.1]).run Try.prog W = .ok (.int .i64 (vs : Int)) W := fun W => by rw [← HVS.out]; simp [Builtin.len_, go_sem]
  have L1 := hide ((Below.refl w.heap.size w).alloc (Nat.le_refl _) (.cells (PC p).toArray 38 (0, 0)))
  have B1 := hide (Blk.new w 38 (PC p))
  obtain ⟨i0, HI0⟩ : ∃ n, Hid (lbB L p.1 = n) := ⟨_, rfl⟩
  have hi0 : i0 ≤ n_ := by have := lbB_le L p.1; rw [HN.out, HI0.out] at this; exact this
  have HLT : Hid (∀ i (hi : i < L.length), lt L[i].1 p.1 = decide (i < i0)) := (show ∀ i (hi : i < L.length), _ from fun i hi => by
    have := lb_is (k := p.1) HSS.out hi
    rw [HI0.out] at this
    exact this)
  go_enter Try.func27, Try.ntmps27
  go_wp2_with fail
  obtain ⟨E, HE⟩ : ∃ E, Hid (w.heap.size = E) := ⟨_, rfl⟩
  obtain ⟨w1, hw1⟩ : ∃ x, x = w.alloc (.cells (PC p).toArray 38 (0, 0)) := ⟨_, rfl⟩
  rw [← hw1] at L1 B1 ⊢
  rw [HE.out] at B1 ⊢
  clear hw1
  go_loopg [5] i0 (fun g x wr => ∃ (i : Nat), g + i = i0 ∧ x = .int .i64 (i : Int) ∧ Hid (Below w.heap.size w wr) ∧ Hid (Blk wr E 38 (PC p)))
  case atStart => exact ⟨0, by omega, rfl, L1, B1⟩
  case round =>
    clear L1 B1
    obtain ⟨i, hgi, rfl, LR, BR⟩ := hrel
    have k0 := cell_regrown ((HS.out.d.kept LR.out).cell (j := 0) rfl)
    have kE := cell_regrown BR.out.key
    by_cases hlt : i < n_
    · have q2 : decide ((i : Int) < (n_ : Int)) = true := by simp; omega
      have q2' : (i : Int) < (n_ : Int) := by omega
      have hlt' : i < L.length := by rw [HN.out]; exact hlt
      obtain ⟨b, off, rfl, hlb, hx⟩ := ((HS.out.own.rd.kept LR.out)).nth (by omega)
      have hr : wr.rangeAt b (off + i * 3) (PC L[i]) := hx i hlt'
      obtain ⟨x, HX⟩ : ∃ x, Hid (L[i] = x) := ⟨L[i], (show L[i] = L[i] from rfl)⟩
      rw [HX.out] at hr
      have HR := hide hr
      have kn := cell_regrown (show wr.cell? ⟨b, off + i * 3, none⟩ = some (.string x.1) from hr 0 _ rfl)
      have q3 := HLT.out i hlt'
      rw [HX.out] at q3
      clear hx hr
      by_cases hi : i < i0
      · have q4 : Op.bytesLess x.1.toList p.1.toList = true := by show lt x.1 p.1 = true; rw [q3]; simpa using hi
        clear q3
        go_upto_region 2 with fail
        refine wp_region_quiet_below Try.mixed (by kernel_rfl) ?_
        repeat (go_big_quiet_step (fail))
        refine wpQuiet_nil ?_
        intro w5 hw5
        have D5 : Hid (Below wr.heap.size wr w5) := (show Below _ _ _ by obtain ⟨⟨dq, osq⟩, rfl⟩ := hw5; exact below_regrown wr dq osq)
        have L5 : Hid (Below w.heap.size w w5) := LR.out.trans (D5.out.mono LR.out.size)
        have B5 := hide (BR.out.kept D5.out)
        clear hw5 k0 kE
        clear kn
        go_wp2_with fail
        go_roundg (gk - 1)
        case measure => omega
        case rel => exact ⟨i + 1, by omega, by go_num, L5, B5⟩
      · obtain rfl : i = i0 := by omega
        have q4 : Op.bytesLess x.1.toList p.1.toList = false := by show lt x.1 p.1 = false; rw [q3]; simp
        clear q3
        go_upto_region 2 with fail
        refine wp_region_quiet_below Try.mixed (by kernel_rfl) ?_
        repeat (go_big_quiet_step (fail))
        refine wpQuiet_nil ?_
        intro w5 hw5
        have D5 : Hid (Below wr.heap.size wr w5) := (show Below _ _ _ by obtain ⟨⟨dq, osq⟩, rfl⟩ := hw5; exact below_regrown wr dq osq)
        have L5 : Hid (Below w.heap.size w w5) := LR.out.trans (D5.out.mono LR.out.size)
        have B5 := hide (BR.out.kept D5.out)
        clear hw5 k0 kE
        clear kn
        have c0 := B5.out.key
        have c1 := B5.out.val
        by_cases h1 : ks < 1
        · have q1 : decide ((ks : Int) < 1) = true := by simp; omega
          have HE9 : Hid (wrE L p = 2) := (show _ = _ by unfold wrE; rw [HKS.out, if_pos (.inl h1)])
          go_wp2_with fail
          go_ret
          exact ⟨by rw [HE9.out]; rfl, _, by rw [HW.out _ HE9.out (by decide)]; exact HS.out.kept L5.out, Chg.of_below L5.out⟩
        · have q1 : decide ((ks : Int) < 1) = false := by simp; omega
          by_cases h2 : 64 < ks
          · have q7 : decide (64 < (ks : Int)) = true := by simp; omega
            have HE9 : Hid (wrE L p = 2) := (show _ = _ by unfold wrE; rw [HKS.out, if_pos (.inr h2)])
            go_wp2_with fail
            go_ret
            exact ⟨by rw [HE9.out]; rfl, _, by rw [HW.out _ HE9.out (by decide)]; exact HS.out.kept L5.out, Chg.of_below L5.out⟩
          · have q7 : decide (64 < (ks : Int)) = false := by simp; omega
            by_cases h3 : 256 < vs
            · have q8 : decide (256 < (vs : Int)) = true := by simp; omega
              have HE9 : Hid (wrE L p = 12) := (show _ = _ by unfold wrE; rw [HKS.out, HVS.out, if_neg (by omega), if_pos h3])
              go_wp2_with fail
              go_ret
              exact ⟨by rw [HE9.out]; rfl, _, by rw [HW.out _ HE9.out (by decide)]; exact HS.out.kept L5.out, Chg.of_below L5.out⟩
            · have q8 : decide (256 < (vs : Int)) = false := by simp; omega
              have k0 := cell_regrown ((HS.out.d.kept L5.out).cell (j := 0) rfl)
              have kE := cell_regrown B5.out.key
              have kn := cell_regrown (show w5.cell? ⟨b, off + i * 3, none⟩ = some (.string x.1) from (D5.out.cell (p := ⟨b, off + i * 3, none⟩) hlb).trans (HR.out 0 _ rfl))
              go_upto_region 8 with fail
              clear c0 c1
              cases h6 : x.1.toList == p.1.toList with
              | true =>
                have HK : Hid (x.1 = p.1) := (show _ = _ from ba_inj.1 (by simpa using h6))
                refine wp_region_quiet_below Try.mixed (by kernel_rfl) ?_
                repeat (go_big_quiet_step (fail))
                refine wpQuiet_nil ?_
                intro w6 hw5
                have D6 : Hid (Below w5.heap.size w5 w6) := (show Below _ _ _ by obtain ⟨⟨dq, osq⟩, rfl⟩ := hw5; exact below_regrown w5 dq osq)
                have L6 : Hid (Below w.heap.size w w6) := L5.out.trans (D6.out.mono L5.out.size)
                have B6 := hide (B5.out.kept D6.out)
                clear hw5 k0 kE
                clear kn
                have HE9 : Hid (wrE L p = 0) := (show _ = _ by unfold wrE; rw [HKS.out, HVS.out, if_neg (by omega), if_neg h3, if_neg]; rintro ⟨h9, -⟩; rw [getB_at HSS.out hlt' HI0.out, HX.out, if_pos HK.out] at h9; cases h9)
                have HWB : Hid (wrB L p = L.set i p) := (show _ = _ by rw [HW0.out HE9.out]; exact insB_same hlt' HI0.out (by rw [HX.out]; exact HK.out))
                obtain ⟨w7, hw7⟩ : ∃ z, z = w6.alloc (.cells #[] 38 (0, 0)) := ⟨_, rfl⟩
                obtain ⟨G, HG⟩ : ∃ z, Hid (w6.heap.size = z) := ⟨_, rfl⟩
                have hb7 : Below w6.heap.size w6 w7 := by rw [hw7]; exact (Below.refl _ _).alloc (Nat.le_refl _) _
                have L7 : Hid (Below w.heap.size w w7) := L6.out.trans (hb7.mono L6.out.size)
                have O7 : Hid (OwnG PE w7 w.heap.size 38 (.slice (some ⟨G, 0, none⟩) 0 0) []) := (show OwnG _ _ _ _ _ _ by rw [hw7, ← HG.out]; exact ownG_none w6 _ 38 L6.out.size)
                have B7 := hide (B6.out.kept hb7)
                have hGE : E < G := by rw [← HG.out]; exact B6.out.lt
                have HRG : Hid (R < G ∧ E ≤ G ∧ w.heap.size ≤ G) := (show _ ∧ _ ∧ _ from ⟨by rw [← HG.out]; exact (HS.out.d.kept L6.out).lt, by omega, by rw [← HG.out]; exact L6.out.size⟩)
                have R7 := hide (HS.out.own.rd.kept L7.out)
                have D7 := hide (HS.out.d.kept L7.out)
                have cR := D7.out.cell (j := 0) rfl
                have HL9 : Hid (([] : List Pr).length + L.length ≤ 10000000) := (show _ ≤ _ by rw [HN.out]; simp; omega)
                have HL8 : Hid (w.heap.size ≤ w7.heap.size) := (show _ ≤ _ from L7.out.size)
                have HW7 := hide hw7
                have HIL : Hid (i < ([] ++ L).length) := (show _ < _ from hlt')
                clear hb7 hw7
                go_wp2_with (first
                  | (refine wpList_build_row0 rfl rfl ?_; rw [← HW7.out, HG.out])
                  | (refine wpList_append_E Try.underlying28 infoP9 (by decide) rfl (.tmp 66) (.tmp 70) rfl w.heap.size (.slice (some ⟨G, 0, none⟩) 0 0) [] rfl O7.out (.slice (some ⟨b, off, none⟩) n_ cp) L rfl R7.out HL9.out HL8.out ?_; intro v9 w9 o9 g9 q9; have O9 := hide o9; have G9 := hide g9; have Q9 := hide q9; clear o9 g9 q9; obtain ⟨gb, c9, cur9, hv9, -⟩ := O9.out.blk (Nat.lt_of_le_of_lt (Nat.zero_le _) HIL.out); rw [List.nil_append, HN.out] at hv9; subst hv9; have C9 : Hid (Chg (fun b => b = G) w7 w9) := (show _ from Chg.of_grown G9.out (fun k e _ => by cases e; rfl)); have B9 := hide (B7.out.chg C9.out (fun e => by omega)); have D9 := hide (D7.out.chg C9.out (fun e => by have := HRG.out.1; omega)))
                  | (refine wpList_load_mid rfl 38 _ rfl E 0 rfl (PC p) _ B9.out.range0 Try.underlying38 rfl Try.size38 ?_)
                  | (refine wpList_store_own rfl _ _ rfl gb i n_ c9 w.heap.size ([] ++ L) p rfl rfl O9.out HIL.out ?_; intro w10 ho10 hu10; have O10 := hide ho10; have C10 := hide (Chg.of_but (F := fun b => b = gb) hu10 rfl); have D10 := hide (D9.out.chg C10.out (fun e => own_ne O9.out D9.out (b := gb) rfl e.symm)); clear ho10 hu10)
                  | (refine wpList_store_ps rfl _ _ rfl R 30 _ _ _ _ rfl rfl D10.out ?_; intro w11 hb11 hu11; have D11 := hide hb11; have C11 := hide (Chg.of_but (F := fun b => b = R) hu11 rfl); clear hb11 hu11)
                  | fail)
                go_ret
                refine ⟨by rw [HE9.out]; rfl, .slice (some ⟨gb, 0, none⟩) n_ c9, ⟨D11.out, ?_⟩, ?_⟩
                · rw [HWB.out]
                  exact (O10.out.mono (Nat.zero_le _)).chg C11.out (fun b hb => own_ne O10.out D10.out hb)
                · have hgb : w.heap.size ≤ gb := (O9.out.block (b := gb) rfl).1
                  refine Chg.trans ?_ C11.out
                  refine Chg.then ?_ C10.out (fun k hk e => by omega)
                  exact Chg.then (Chg.of_below L7.out) C9.out (fun k hk e => by have := HRG.out.2.2; omega)
              | false =>
                have HNG : Hid (getB L p.1 = none) := (show _ = _ by rw [getB_at HSS.out hlt' HI0.out, HX.out, if_neg (fun e => by rw [e] at h6; simp at h6)])
                refine wp_region_quiet_below Try.mixed (by kernel_rfl) ?_
                repeat (go_big_quiet_step (fail))
                refine wpQuiet_nil ?_
                intro w6 hw5
                have D6 : Hid (Below w5.heap.size w5 w6) := (show Below _ _ _ by obtain ⟨⟨dq, osq⟩, rfl⟩ := hw5; exact below_regrown w5 dq osq)
                have L6 : Hid (Below w.heap.size w w6) := L5.out.trans (D6.out.mono L5.out.size)
                have B6 := hide (B5.out.kept D6.out)
                clear hw5 k0 kE
                clear kn
                by_cases h64 : 64 ≤ n_
                · have HE9 : Hid (wrE L p = 13) := (show _ = _ by unfold wrE; rw [HKS.out, HVS.out, if_neg (by omega), if_neg h3, if_pos ⟨by rw [HNG.out]; rfl, by rw [HN.out]; omega⟩])
                  have q9 : decide (64 ≤ (n_ : Int)) = true := by simp; omega
                  have cR := (HS.out.d.kept L6.out).cell (j := 0) rfl
                  go_wp2_with fail
                  go_ret
                  exact ⟨by rw [HE9.out]; rfl, _, by rw [HW.out _ HE9.out (by decide)]; exact HS.out.kept L6.out, Chg.of_below L6.out⟩
                · have HE9 : Hid (wrE L p = 0) := (show _ = _ by unfold wrE; rw [HKS.out, HVS.out, if_neg (by omega), if_neg h3, if_neg]; rintro ⟨-, h9⟩; rw [HN.out] at h9; omega)
                  have q9 : decide (64 ≤ (n_ : Int)) = false := by simp; omega
                  have cR := (HS.out.d.kept L6.out).cell (j := 0) rfl
                  go_upto_region 15 with fail
                  clear cR
                  obtain ⟨a2, hs2, -, hs3⟩ := slice_G (E := PE) (P := Try.prog) Try.underlying28 Try.size38 (some ⟨b, off, none⟩) n_ cp i (by omega) hcp
                  obtain ⟨hs1, hs4⟩ := slice_G_cap (E := PE) (P := Try.prog) Try.underlying28 Try.size38 (some ⟨b, off, none⟩) n_ cp i (by omega) hcp
                  obtain ⟨ti, tz, hti, hz0, hz1, hz2, hz3⟩ := infoP9
                  refine wp_region_tails Try.mixed (KS (fun i_ => match i_ with | 0 | 1 | 2 | 3 | 10 | 11 | 12 | 18 | 19 => .val (.pointer (some ⟨R, 0, none⟩)) | 4 | 13 => .val (.slice (some ⟨b, off, none⟩) n_ cp) | 5 | 6 | 14 => .val (.int .i64 (i : Int)) | 7 => .val (.slice (some ⟨b, off, none⟩) i i) | 8 => .val (.agg (PC p).toArray) | 9 => .of (fun W x => ∃ g, x = .slice (some g) 1 1 ∧ RdG PE W x [p]) (fun _ _ _ hg h => by obtain ⟨g, h1, h2⟩ := h; exact ⟨g, h1, h2.kept hg⟩) | 15 => .val (.slice a2 (n_ - i) (cp - i)) | 16 => .of (fun W x => RdG PE W x ([p] ++ L.drop i)) (fun _ _ _ hg h => RdG.kept h hg) | 17 => .of (fun W x => OwnG PE W w.heap.size 38 x (L.take i ++ ([p] ++ L.drop i))) (fun _ _ _ hg h => OwnG.kept h hg) | _ => .free)) 107 rfl (by decide +kernel) 20 (by decide) (by decide +kernel) (KS_mono _) ?_ ?_
                  · refine AllFrom.cons ⟨rfl, fun a' w' hg hk hd Q => ?_⟩ (AllFrom.cons ⟨rfl, fun a' w' hg hk hd Q => ?_⟩ (AllFrom.cons ⟨rfl, fun a' w' hg hk hd Q => ?_⟩ (AllFrom.cons ⟨rfl, fun a' w' hg hk hd Q => ?_⟩ (AllFrom.cons ⟨rfl, fun a' w' hg hk hd Q => ?_⟩ (AllFrom.cons ⟨rfl, fun a' w' hg hk hd Q => ?_⟩ (AllFrom.cons ⟨rfl, fun a' w' hg hk hd Q => ?_⟩ (AllFrom.cons ⟨rfl, fun a' w' hg hk hd Q => ?_⟩ (AllFrom.cons ⟨rfl, fun a' w' hg hk hd Q => ?_⟩ (AllFrom.cons ⟨rfl, fun a' w' hg hk hd Q => ?_⟩ (AllFrom.cons ⟨rfl, fun a' w' hg hk hd Q => ?_⟩ (AllFrom.cons ⟨rfl, fun a' w' hg hk hd Q => ?_⟩ (AllFrom.cons ⟨rfl, fun a' w' hg hk hd Q => ?_⟩ (AllFrom.cons ⟨rfl, fun a' w' hg hk hd Q => ?_⟩ (AllFrom.cons ⟨rfl, fun a' w' hg hk hd Q => ?_⟩ (AllFrom.cons ⟨rfl, fun a' w' hg hk hd Q => ?_⟩ (AllFrom.cons ⟨rfl, fun a' w' hg hk hd Q => ?_⟩ (AllFrom.cons ⟨rfl, fun a' w' hg hk hd Q => ?_⟩ (AllFrom.cons ⟨rfl, fun a' w' hg hk hd Q => ?_⟩ (AllFrom.cons ⟨rfl, fun a' w' hg hk hd Q => ?_⟩ AllFrom.nil)))))))))))))))))))
                    · -- 0: Op.move (Operand.tmp 0)
                      have e0 : a'.eval (.tmp 0) = .pointer (some ⟨R, 0, none⟩) := hk.at 0 (by decide +kernel)
                      exact wp_value _ (by simp only [execOp, e0]; rfl) (KS_mkv rfl rfl)
                    · -- 1: Op.move (Operand.tmp 0)
                      have e0 : a'.eval (.tmp 0) = .pointer (some ⟨R, 0, none⟩) := hk.at 0 (by decide +kernel)
                      exact wp_value _ (by simp only [execOp, e0]; rfl) (KS_mkv rfl rfl)
                    · -- 2: Op.nilCheck (Operand.tmp 88)
                      have e88 : a'.eval (.tmp 88) = .pointer (some ⟨R, 0, none⟩) := KS_val (Deps.val hd 1 88 (by decide +kernel)) rfl
                      clear hd hk
                      exact wp_value (.pointer (some ⟨R, 0, none⟩)) (by simp only [execOp, e88]; go_simp) (KS_mkv rfl rfl)
                    · -- 3: Op.fieldAddr 30 (Operand.tmp 89) 0
                      have e89 : a'.eval (.tmp 89) = .pointer (some ⟨R, 0, none⟩) := KS_val (Deps.val hd 2 89 (by decide +kernel)) rfl
                      clear hd hk
                      exact wp_value (.pointer (some ⟨R, 0, none⟩)) (by simp only [execOp, e89]; go_simp) (KS_mkv rfl rfl)
                    · -- 4: Op.load 28 (Operand.tmp 90)
                      have e90 : a'.eval (.tmp 90) = .pointer (some ⟨R, 0, none⟩) := KS_val (Deps.val hd 3 90 (by decide +kernel)) rfl
                      have c_ : w'.cell? ⟨R, 0, none⟩ = some (.slice (some ⟨b, off, none⟩) n_ cp) := ((HS.out.d.kept L6.out).kept hg).cell (j := 0) rfl
                      clear hd hk
                      exact wp_value (.slice (some ⟨b, off, none⟩) n_ cp) (by simp only [execOp, e90]; go_simp) (KS_mkv rfl rfl)
                    · -- 5: Op.move (Operand.tmp 5)
                      have e5 : a'.eval (.tmp 5) = .int .i64 (i : Int) := hk.at 5 (by decide +kernel)
                      exact wp_value _ (by simp only [execOp, e5]; rfl) (KS_mkv rfl rfl)
                    · -- 6: Op.move (Operand.tmp 5)
                      have e5 : a'.eval (.tmp 5) = .int .i64 (i : Int) := hk.at 5 (by decide +kernel)
                      exact wp_value _ (by simp only [execOp, e5]; rfl) (KS_mkv rfl rfl)
                    · -- 7: Op.slice 28 (Operand.tmp 91) none (some (Operand.tmp 92)) (s
                      have e91 : a'.eval (.tmp 91) = .slice (some ⟨b, off, none⟩) n_ cp := KS_val (Deps.val hd 4 91 (by decide +kernel)) rfl
                      have e92 : a'.eval (.tmp 92) = .int .i64 (i : Int) := KS_val (Deps.val hd 5 92 (by decide +kernel)) rfl
                      have e93 : a'.eval (.tmp 93) = .int .i64 (i : Int) := KS_val (Deps.val hd 6 93 (by decide +kernel)) rfl
                      clear hd hk
                      exact wp_value _ (by simp only [execOp, Option.map_some, Option.map_none, e91, e92, e93, hs1, Sem.run_bind, Sem.run_pure, Result.andThen_ok]) (KS_mkv rfl rfl)
                    · -- 8: Op.load 38 (Operand.tmp 3)
                      have e3 : a'.eval (.tmp 3) = .pointer (some ⟨E, 0, none⟩) := hk.at 3 (by decide +kernel)
                      have rg_ := (B6.out.kept hg).range0
                      clear hd hk
                      exact wp_value (.agg (PC p).toArray) (by simp only [execOp, e3, Instr.loadAt, Instr.sureAddr, Sem.run_bind, Sem.run_pure, Result.andThen_ok, run_loadVar_mid w' E 0 38 (PC p) _ rg_ Try.underlying38 rfl Try.size38]) (KS_mkv rfl rfl)
                    · -- 9: Op.buildSlice 28 1 #[(0, Operand.tmp 95)]
                      have e95 : a'.eval (.tmp 95) = .agg (PC p).toArray := KS_val (Deps.val hd 8 95 (by decide +kernel)) rfl
                      refine wp_grow (.slice (some ⟨w'.heap.size, 0, none⟩) 1 1) (w'.alloc (.cells (PC p).toArray 38 (0, 0))) ?_ ((Below.refl _ _).alloc (Nat.le_refl _) _) (KS_mko rfl ⟨_, rfl, rdG_one (E := PE) w' 38 p⟩)
                      have hr_ := build_row1 p w'
                      simp only [execOp, List.map_toArray, List.map_cons, List.map_nil, e95, hr_, Sem.run_bind, Sem.run_pure, Result.andThen_ok]
                    · -- 10: Op.move (Operand.tmp 0)
                      have e0 : a'.eval (.tmp 0) = .pointer (some ⟨R, 0, none⟩) := hk.at 0 (by decide +kernel)
                      exact wp_value _ (by simp only [execOp, e0]; rfl) (KS_mkv rfl rfl)
                    · -- 11: Op.nilCheck (Operand.tmp 97)
                      have e97 : a'.eval (.tmp 97) = .pointer (some ⟨R, 0, none⟩) := KS_val (Deps.val hd 10 97 (by decide +kernel)) rfl
                      clear hd hk
                      exact wp_value (.pointer (some ⟨R, 0, none⟩)) (by simp only [execOp, e97]; go_simp) (KS_mkv rfl rfl)
                    · -- 12: Op.fieldAddr 30 (Operand.tmp 98) 0
                      have e98 : a'.eval (.tmp 98) = .pointer (some ⟨R, 0, none⟩) := KS_val (Deps.val hd 11 98 (by decide +kernel)) rfl
                      clear hd hk
                      exact wp_value (.pointer (some ⟨R, 0, none⟩)) (by simp only [execOp, e98]; go_simp) (KS_mkv rfl rfl)
                    · -- 13: Op.load 28 (Operand.tmp 99)
                      have e99 : a'.eval (.tmp 99) = .pointer (some ⟨R, 0, none⟩) := KS_val (Deps.val hd 12 99 (by decide +kernel)) rfl
                      have c_ : w'.cell? ⟨R, 0, none⟩ = some (.slice (some ⟨b, off, none⟩) n_ cp) := ((HS.out.d.kept L6.out).kept hg).cell (j := 0) rfl
                      clear hd hk
                      exact wp_value (.slice (some ⟨b, off, none⟩) n_ cp) (by simp only [execOp, e99]; go_simp) (KS_mkv rfl rfl)
                    · -- 14: Op.move (Operand.tmp 5)
                      have e5 : a'.eval (.tmp 5) = .int .i64 (i : Int) := hk.at 5 (by decide +kernel)
                      exact wp_value _ (by simp only [execOp, e5]; rfl) (KS_mkv rfl rfl)
                    · -- 15: Op.slice 28 (Operand.tmp 100) (some (Operand.tmp 101)) none 
                      have e100 : a'.eval (.tmp 100) = .slice (some ⟨b, off, none⟩) n_ cp := KS_val (Deps.val hd 13 100 (by decide +kernel)) rfl
                      have e101 : a'.eval (.tmp 101) = .int .i64 (i : Int) := KS_val (Deps.val hd 14 101 (by decide +kernel)) rfl
                      clear hd hk
                      exact wp_value _ (by simp only [execOp, Option.map_some, Option.map_none, e100, e101, hs2, Sem.run_bind, Sem.run_pure, Result.andThen_ok]) (KS_mkv rfl rfl)
                    · -- 16: Op.call ( callee := Callee.builtin Builtin.append, args := #
                      have r96 := KS_of (Deps.val hd 9 96 (by decide +kernel)) rfl
                      have e102 : a'.eval (.tmp 102) = .slice a2 (n_ - i) (cp - i) := KS_val (Deps.val hd 15 102 (by decide +kernel)) rfl
                      obtain ⟨g_, eg_, hg_⟩ := r96
                      rw [eg_] at hg_
                      obtain ⟨v_, w_, hr_, h2_, h3_⟩ := run_append_rd (E := PE) (P := Try.prog) w' 28 28 28 38 ti tz 40 Try.underlying28 hti hz0 hz1 hz2 hz3 g_ 1 _ hg_ (.slice a2 (n_ - i) (cp - i)) (L.drop i) ((hs3 _ _ (((HS.out.own.rd).kept L6.out).kept hg)).src 28 38 Try.underlying28) (by rw [List.length_drop, HN.out]; simp only [maxLen]; omega) (by rw [List.length_drop, HN.out]; omega)
                      refine wp_grow v_ w_ ?_ h3_ (KS_mko rfl h2_)
                      simp only [execOp, resolve, invoke, builtin, Sem.run_bind, Sem.run_pure, Result.andThen_ok, List.map_toArray, List.map_cons, List.map_nil, eg_, e102, hr_]
                    · -- 17: Op.call ( callee := Callee.builtin Builtin.append, args := #
                      have e94 : a'.eval (.tmp 94) = .slice (some ⟨b, off, none⟩) i i := KS_val (Deps.val hd 7 94 (by decide +kernel)) rfl
                      have r103 := KS_of (Deps.val hd 16 103 (by decide +kernel)) rfl
                      have hlr_ : ([p] ++ L.drop i).length = 1 + (n_ - i) := by rw [List.length_append, List.length_drop, HN.out]; rfl
                      obtain ⟨v_, w_, hr_, h2_, h3_, -⟩ := run_append_full (E := PE) (P := Try.prog) w' w.heap.size 28 28 28 38 ti tz 40 Try.underlying28 hti hz0 hz1 hz2 hz3 (some ⟨b, off, none⟩) i _ (hs4 _ _ (((HS.out.own.rd).kept L6.out).kept hg)) (a'.eval (.tmp 103)) ([p] ++ L.drop i) (r103.src 28 38 Try.underlying28) (by rw [hlr_]; omega) (by rw [hlr_]; simp only [maxLen]; omega) (by rw [hlr_]; omega) (Nat.le_trans L6.out.size hg.size)
                      refine wp_grow v_ w_ ?_ h3_ (KS_mko rfl h2_)
                      simp only [execOp, resolve, invoke, builtin, Sem.run_bind, Sem.run_pure, Result.andThen_ok, List.map_toArray, List.map_cons, List.map_nil, e94, hr_]
                    · -- 18: Op.nilCheck (Operand.tmp 87)
                      have e87 : a'.eval (.tmp 87) = .pointer (some ⟨R, 0, none⟩) := KS_val (Deps.val hd 0 87 (by decide +kernel)) rfl
                      clear hd hk
                      exact wp_value (.pointer (some ⟨R, 0, none⟩)) (by simp only [execOp, e87]; go_simp) (KS_mkv rfl rfl)
                    · -- 19: Op.fieldAddr 30 (Operand.tmp 105) 0
                      have e105 : a'.eval (.tmp 105) = .pointer (some ⟨R, 0, none⟩) := KS_val (Deps.val hd 18 105 (by decide +kernel)) rfl
                      clear hd hk
                      exact wp_value (.pointer (some ⟨R, 0, none⟩)) (by simp only [execOp, e105]; go_simp) (KS_mkv rfl rfl)
                  · intro a' w7 hsz hdf hk hall hg
                    have e87 : a'.eval (.tmp 87) = .pointer (some ⟨R, 0, none⟩) := KS_val (hall 0 _ 87 (by decide) rfl rfl) rfl
                    have e88 : a'.eval (.tmp 88) = .pointer (some ⟨R, 0, none⟩) := KS_val (hall 1 _ 88 (by decide) rfl rfl) rfl
                    have e89 : a'.eval (.tmp 89) = .pointer (some ⟨R, 0, none⟩) := KS_val (hall 2 _ 89 (by decide) rfl rfl) rfl
                    have e90 : a'.eval (.tmp 90) = .pointer (some ⟨R, 0, none⟩) := KS_val (hall 3 _ 90 (by decide) rfl rfl) rfl
                    have e91 : a'.eval (.tmp 91) = .slice (some ⟨b, off, none⟩) n_ cp := KS_val (hall 4 _ 91 (by decide) rfl rfl) rfl
                    have e92 : a'.eval (.tmp 92) = .int .i64 (i : Int) := KS_val (hall 5 _ 92 (by decide) rfl rfl) rfl
                    have e93 : a'.eval (.tmp 93) = .int .i64 (i : Int) := KS_val (hall 6 _ 93 (by decide) rfl rfl) rfl
                    have e94 : a'.eval (.tmp 94) = .slice (some ⟨b, off, none⟩) i i := KS_val (hall 7 _ 94 (by decide) rfl rfl) rfl
                    have e95 : a'.eval (.tmp 95) = .agg (PC p).toArray := KS_val (hall 8 _ 95 (by decide) rfl rfl) rfl
                    have r96 := KS_of (hall 9 _ 96 (by decide) rfl rfl) rfl
                    obtain ⟨x96, e96⟩ : ∃ v, a'.eval (.tmp 96) = v := ⟨_, rfl⟩
                    rw [e96] at r96
                    have e97 : a'.eval (.tmp 97) = .pointer (some ⟨R, 0, none⟩) := KS_val (hall 10 _ 97 (by decide) rfl rfl) rfl
                    have e98 : a'.eval (.tmp 98) = .pointer (some ⟨R, 0, none⟩) := KS_val (hall 11 _ 98 (by decide) rfl rfl) rfl
                    have e99 : a'.eval (.tmp 99) = .pointer (some ⟨R, 0, none⟩) := KS_val (hall 12 _ 99 (by decide) rfl rfl) rfl
                    have e100 : a'.eval (.tmp 100) = .slice (some ⟨b, off, none⟩) n_ cp := KS_val (hall 13 _ 100 (by decide) rfl rfl) rfl
                    have e101 : a'.eval (.tmp 101) = .int .i64 (i : Int) := KS_val (hall 14 _ 101 (by decide) rfl rfl) rfl
                    have e102 : a'.eval (.tmp 102) = .slice a2 (n_ - i) (cp - i) := KS_val (hall 15 _ 102 (by decide) rfl rfl) rfl
                    have r103 := KS_of (hall 16 _ 103 (by decide) rfl rfl) rfl
                    obtain ⟨x103, e103⟩ : ∃ v, a'.eval (.tmp 103) = v := ⟨_, rfl⟩
                    rw [e103] at r103
                    have r104 := KS_of (hall 17 _ 104 (by decide) rfl rfl) rfl
                    obtain ⟨x104, e104⟩ : ∃ v, a'.eval (.tmp 104) = v := ⟨_, rfl⟩
                    rw [e104] at r104
                    have e105 : a'.eval (.tmp 105) = .pointer (some ⟨R, 0, none⟩) := KS_val (hall 18 _ 105 (by decide) rfl rfl) rfl
                    have e106 : a'.eval (.tmp 106) = .pointer (some ⟨R, 0, none⟩) := KS_val (hall 19 _ 106 (by decide) rfl rfl) rfl
                    have D7 := hide ((HS.out.d.kept L6.out).kept hg)
                    have O7 := hide r104
                    have G7 := hide hg
                    have cR_ := D7.out.cell (j := 0) rfl
                    have fR_ := D7.out.frozen 0
                    obtain ⟨xa, xn, xc, hx_⟩ : ∃ a n c, x104 = .slice a n c := by obtain ⟨xa, xc, h⟩ := r104.rd.slice; exact ⟨_, _, _, h⟩
                    subst hx_
                    refine ⟨rfl, ?_⟩
                    unfold Oper.wp execOp
                    simp only [Sem.run_bind, Sem.run_pure, e106, e104]
                    go_simp
                    show Exit.then _ _ Exit.normal _ _
                    have ha := act_puts 107 rfl hsz hdf hk [87, 88, 89, 90, 91, 92, 93, 94, 95, 96, 97, 98, 99, 100, 101, 102, 103, 104, 105, 106] (by decide +kernel)
                    simp only [puts, List.foldl_cons, List.foldl_nil, e87, e88, e89, e90, e91, e92, e93, e94, e95, e96, e97, e98, e99, e100, e101, e102, e103, e104, e105, e106] at ha
                    simp only [Act.put, List.setIfInBounds_toArray, List.set_cons_succ, List.set_cons_zero] at ha
                    clear hall hk hsz hdf hg r104 r96 r103 cR_ fR_ hs1 hs2 hs3 hs4 e87 e88 e89 e90 e91 e92 e93 e94 e95 e96 e97 e98 e99 e100 e101 e102 e103 e104 e105 e106
                    subst ha
                    have HF : Hid (RBf (w7.setCell ⟨R, 0, none⟩ (.slice xa xn xc)) R (.slice xa xn xc) (wrB L p) ∧ Chg (fun b => b = R) w (w7.setCell ⟨R, 0, none⟩ (.slice xa xn xc))) := (show _ ∧ _ from by
                      have c9 : Chg (fun b => b = R) w7 (w7.setCell ⟨R, 0, none⟩ (.slice xa xn xc)) := Chg.setCell (F := fun b => b = R) _ rfl _ _
                      refine ⟨⟨D7.out.set 0 _, ?_⟩, (Chg.of_below (L6.out.trans (G7.out.mono L6.out.size))).trans c9⟩
                      rw [HW0.out HE9.out, insB_new HSS.out HI0.out HNG.out]
                      exact (O7.out.mono (Nat.zero_le _)).chg c9 (fun b hb => own_ne O7.out D7.out hb))
                    clear D7 O7 G7
                    obtain ⟨w8, hw8⟩ : ∃ x, x = w7.setCell ⟨R, 0, none⟩ (.slice xa xn xc) := ⟨_, rfl⟩
                    rw [← hw8] at HF ⊢
                    clear hw8
                    go_wp2_with fail
                    go_ret
                    exact ⟨by rw [HE9.out]; rfl, _, HF.out.1, HF.out.2⟩
    · obtain rfl : i = i0 := by omega
      have hin : i = n_ := by omega
      have q2 : decide ((i : Int) < (n_ : Int)) = false := by simp; omega
      go_upto_region 2 with fail
      refine wp_region_quiet_below Try.mixed (by kernel_rfl) ?_
      repeat (go_big_quiet_step (fail))
      refine wpQuiet_nil ?_
      intro w5 hw5
      have D5 : Hid (Below wr.heap.size wr w5) := (show Below _ _ _ by obtain ⟨⟨dq, osq⟩, rfl⟩ := hw5; exact below_regrown wr dq osq)
      have L5 : Hid (Below w.heap.size w w5) := LR.out.trans (D5.out.mono LR.out.size)
      have B5 := hide (BR.out.kept D5.out)
      clear hw5 k0 kE
      have c0 := B5.out.key
      have c1 := B5.out.val
      by_cases h1 : ks < 1
      · have q1 : decide ((ks : Int) < 1) = true := by simp; omega
        have HE9 : Hid (wrE L p = 2) := (show _ = _ by unfold wrE; rw [HKS.out, if_pos (.inl h1)])
        go_wp2_with fail
        go_ret
        exact ⟨by rw [HE9.out]; rfl, _, by rw [HW.out _ HE9.out (by decide)]; exact HS.out.kept L5.out, Chg.of_below L5.out⟩
      · have q1 : decide ((ks : Int) < 1) = false := by simp; omega
        by_cases h2 : 64 < ks
        · have q7 : decide (64 < (ks : Int)) = true := by simp; omega
          have HE9 : Hid (wrE L p = 2) := (show _ = _ by unfold wrE; rw [HKS.out, if_pos (.inr h2)])
          go_wp2_with fail
          go_ret
          exact ⟨by rw [HE9.out]; rfl, _, by rw [HW.out _ HE9.out (by decide)]; exact HS.out.kept L5.out, Chg.of_below L5.out⟩
        · have q7 : decide (64 < (ks : Int)) = false := by simp; omega
          by_cases h3 : 256 < vs
          · have q8 : decide (256 < (vs : Int)) = true := by simp; omega
            have HE9 : Hid (wrE L p = 12) := (show _ = _ by unfold wrE; rw [HKS.out, HVS.out, if_neg (by omega), if_pos h3])
            go_wp2_with fail
            go_ret
            exact ⟨by rw [HE9.out]; rfl, _, by rw [HW.out _ HE9.out (by decide)]; exact HS.out.kept L5.out, Chg.of_below L5.out⟩
          · have q8 : decide (256 < (vs : Int)) = false := by simp; omega
            have k0 := cell_regrown ((HS.out.d.kept L5.out).cell (j := 0) rfl)
            have kE := cell_regrown B5.out.key
            go_upto_region 8 with fail
            clear c0 c1
            have HNG : Hid (getB L p.1 = none) := (show _ = _ from getB_end HSS.out (by rw [HI0.out, HN.out]; exact hin))
            refine wp_region_quiet_below Try.mixed (by kernel_rfl) ?_
            repeat (go_big_quiet_step (fail))
            refine wpQuiet_nil ?_
            intro w6 hw5
            have D6 : Hid (Below w5.heap.size w5 w6) := (show Below _ _ _ by obtain ⟨⟨dq, osq⟩, rfl⟩ := hw5; exact below_regrown w5 dq osq)
            have L6 : Hid (Below w.heap.size w w6) := L5.out.trans (D6.out.mono L5.out.size)
            have B6 := hide (B5.out.kept D6.out)
            clear hw5 k0 kE
            by_cases h64 : 64 ≤ n_
            · have HE9 : Hid (wrE L p = 13) := (show _ = _ by unfold wrE; rw [HKS.out, HVS.out, if_neg (by omega), if_neg h3, if_pos ⟨by rw [HNG.out]; rfl, by rw [HN.out]; omega⟩])
              have q9 : decide (64 ≤ (n_ : Int)) = true := by simp; omega
              have cR := (HS.out.d.kept L6.out).cell (j := 0) rfl
              go_wp2_with fail
              go_ret
              exact ⟨by rw [HE9.out]; rfl, _, by rw [HW.out _ HE9.out (by decide)]; exact HS.out.kept L6.out, Chg.of_below L6.out⟩
            · have HE9 : Hid (wrE L p = 0) := (show _ = _ by unfold wrE; rw [HKS.out, HVS.out, if_neg (by omega), if_neg h3, if_neg]; rintro ⟨-, h9⟩; rw [HN.out] at h9; omega)
              have q9 : decide (64 ≤ (n_ : Int)) = false := by simp; omega
              have cR := (HS.out.d.kept L6.out).cell (j := 0) rfl
              go_upto_region 15 with fail
              clear cR
              obtain ⟨a2, hs2, -, hs3⟩ := slice_G (E := PE) (P := Try.prog) Try.underlying28 Try.size38 (a) n_ cp i (by omega) hcp
              obtain ⟨hs1, hs4⟩ := slice_G_cap (E := PE) (P := Try.prog) Try.underlying28 Try.size38 (a) n_ cp i (by omega) hcp
              obtain ⟨ti, tz, hti, hz0, hz1, hz2, hz3⟩ := infoP9
              refine wp_region_tails Try.mixed (KS (fun i_ => match i_ with | 0 | 1 | 2 | 3 | 10 | 11 | 12 | 18 | 19 => .val (.pointer (some ⟨R, 0, none⟩)) | 4 | 13 => .val (.slice a n_ cp) | 5 | 6 | 14 => .val (.int .i64 (i : Int)) | 7 => .val (.slice (a) i i) | 8 => .val (.agg (PC p).toArray) | 9 => .of (fun W x => ∃ g, x = .slice (some g) 1 1 ∧ RdG PE W x [p]) (fun _ _ _ hg h => by obtain ⟨g, h1, h2⟩ := h; exact ⟨g, h1, h2.kept hg⟩) | 15 => .val (.slice a2 (n_ - i) (cp - i)) | 16 => .of (fun W x => RdG PE W x ([p] ++ L.drop i)) (fun _ _ _ hg h => RdG.kept h hg) | 17 => .of (fun W x => OwnG PE W w.heap.size 38 x (L.take i ++ ([p] ++ L.drop i))) (fun _ _ _ hg h => OwnG.kept h hg) | _ => .free)) 107 rfl (by decide +kernel) 20 (by decide) (by decide +kernel) (KS_mono _) ?_ ?_
              · refine AllFrom.cons ⟨rfl, fun a' w' hg hk hd Q => ?_⟩ (AllFrom.cons ⟨rfl, fun a' w' hg hk hd Q => ?_⟩ (AllFrom.cons ⟨rfl, fun a' w' hg hk hd Q => ?_⟩ (AllFrom.cons ⟨rfl, fun a' w' hg hk hd Q => ?_⟩ (AllFrom.cons ⟨rfl, fun a' w' hg hk hd Q => ?_⟩ (AllFrom.cons ⟨rfl, fun a' w' hg hk hd Q => ?_⟩ (AllFrom.cons ⟨rfl, fun a' w' hg hk hd Q => ?_⟩ (AllFrom.cons ⟨rfl, fun a' w' hg hk hd Q => ?_⟩ (AllFrom.cons ⟨rfl, fun a' w' hg hk hd Q => ?_⟩ (AllFrom.cons ⟨rfl, fun a' w' hg hk hd Q => ?_⟩ (AllFrom.cons ⟨rfl, fun a' w' hg hk hd Q => ?_⟩ (AllFrom.cons ⟨rfl, fun a' w' hg hk hd Q => ?_⟩ (AllFrom.cons ⟨rfl, fun a' w' hg hk hd Q => ?_⟩ (AllFrom.cons ⟨rfl, fun a' w' hg hk hd Q => ?_⟩ (AllFrom.cons ⟨rfl, fun a' w' hg hk hd Q => ?_⟩ (AllFrom.cons ⟨rfl, fun a' w' hg hk hd Q => ?_⟩ (AllFrom.cons ⟨rfl, fun a' w' hg hk hd Q => ?_⟩ (AllFrom.cons ⟨rfl, fun a' w' hg hk hd Q => ?_⟩ (AllFrom.cons ⟨rfl, fun a' w' hg hk hd Q => ?_⟩ (AllFrom.cons ⟨rfl, fun a' w' hg hk hd Q => ?_⟩ AllFrom.nil)))))))))))))))))))
                · -- 0: Op.move (Operand.tmp 0)
                  have e0 : a'.eval (.tmp 0) = .pointer (some ⟨R, 0, none⟩) := hk.at 0 (by decide +kernel)
                  exact wp_value _ (by simp only [execOp, e0]; rfl) (KS_mkv rfl rfl)
                · -- 1: Op.move (Operand.tmp 0)
                  have e0 : a'.eval (.tmp 0) = .pointer (some ⟨R, 0, none⟩) := hk.at 0 (by decide +kernel)
                  exact wp_value _ (by simp only [execOp, e0]; rfl) (KS_mkv rfl rfl)
                · -- 2: Op.nilCheck (Operand.tmp 88)
                  have e88 : a'.eval (.tmp 88) = .pointer (some ⟨R, 0, none⟩) := KS_val (Deps.val hd 1 88 (by decide +kernel)) rfl
                  clear hd hk
                  exact wp_value (.pointer (some ⟨R, 0, none⟩)) (by simp only [execOp, e88]; go_simp) (KS_mkv rfl rfl)
                · -- 3: Op.fieldAddr 30 (Operand.tmp 89) 0
                  have e89 : a'.eval (.tmp 89) = .pointer (some ⟨R, 0, none⟩) := KS_val (Deps.val hd 2 89 (by decide +kernel)) rfl
                  clear hd hk
                  exact wp_value (.pointer (some ⟨R, 0, none⟩)) (by simp only [execOp, e89]; go_simp) (KS_mkv rfl rfl)
                · -- 4: Op.load 28 (Operand.tmp 90)
                  have e90 : a'.eval (.tmp 90) = .pointer (some ⟨R, 0, none⟩) := KS_val (Deps.val hd 3 90 (by decide +kernel)) rfl
                  have c_ : w'.cell? ⟨R, 0, none⟩ = some (.slice a n_ cp) := ((HS.out.d.kept L6.out).kept hg).cell (j := 0) rfl
                  clear hd hk
                  exact wp_value (.slice a n_ cp) (by simp only [execOp, e90]; go_simp) (KS_mkv rfl rfl)
                · -- 5: Op.move (Operand.tmp 5)
                  have e5 : a'.eval (.tmp 5) = .int .i64 (i : Int) := hk.at 5 (by decide +kernel)
                  exact wp_value _ (by simp only [execOp, e5]; rfl) (KS_mkv rfl rfl)
                · -- 6: Op.move (Operand.tmp 5)
                  have e5 : a'.eval (.tmp 5) = .int .i64 (i : Int) := hk.at 5 (by decide +kernel)
                  exact wp_value _ (by simp only [execOp, e5]; rfl) (KS_mkv rfl rfl)
                · -- 7: Op.slice 28 (Operand.tmp 91) none (some (Operand.tmp 92)) (s
                  have e91 : a'.eval (.tmp 91) = .slice a n_ cp := KS_val (Deps.val hd 4 91 (by decide +kernel)) rfl
                  have e92 : a'.eval (.tmp 92) = .int .i64 (i : Int) := KS_val (Deps.val hd 5 92 (by decide +kernel)) rfl
                  have e93 : a'.eval (.tmp 93) = .int .i64 (i : Int) := KS_val (Deps.val hd 6 93 (by decide +kernel)) rfl
                  clear hd hk
                  exact wp_value _ (by simp only [execOp, Option.map_some, Option.map_none, e91, e92, e93, hs1, Sem.run_bind, Sem.run_pure, Result.andThen_ok]) (KS_mkv rfl rfl)
                · -- 8: Op.load 38 (Operand.tmp 3)
                  have e3 : a'.eval (.tmp 3) = .pointer (some ⟨E, 0, none⟩) := hk.at 3 (by decide +kernel)
                  have rg_ := (B6.out.kept hg).range0
                  clear hd hk
                  exact wp_value (.agg (PC p).toArray) (by simp only [execOp, e3, Instr.loadAt, Instr.sureAddr, Sem.run_bind, Sem.run_pure, Result.andThen_ok, run_loadVar_mid w' E 0 38 (PC p) _ rg_ Try.underlying38 rfl Try.size38]) (KS_mkv rfl rfl)
                · -- 9: Op.buildSlice 28 1 #[(0, Operand.tmp 95)]
                  have e95 : a'.eval (.tmp 95) = .agg (PC p).toArray := KS_val (Deps.val hd 8 95 (by decide +kernel)) rfl
                  refine wp_grow (.slice (some ⟨w'.heap.size, 0, none⟩) 1 1) (w'.alloc (.cells (PC p).toArray 38 (0, 0))) ?_ ((Below.refl _ _).alloc (Nat.le_refl _) _) (KS_mko rfl ⟨_, rfl, rdG_one (E := PE) w' 38 p⟩)
                  have hr_ := build_row1 p w'
                  simp only [execOp, List.map_toArray, List.map_cons, List.map_nil, e95, hr_, Sem.run_bind, Sem.run_pure, Result.andThen_ok]
                · -- 10: Op.move (Operand.tmp 0)
                  have e0 : a'.eval (.tmp 0) = .pointer (some ⟨R, 0, none⟩) := hk.at 0 (by decide +kernel)
                  exact wp_value _ (by simp only [execOp, e0]; rfl) (KS_mkv rfl rfl)
                · -- 11: Op.nilCheck (Operand.tmp 97)
                  have e97 : a'.eval (.tmp 97) = .pointer (some ⟨R, 0, none⟩) := KS_val (Deps.val hd 10 97 (by decide +kernel)) rfl
                  clear hd hk
                  exact wp_value (.pointer (some ⟨R, 0, none⟩)) (by simp only [execOp, e97]; go_simp) (KS_mkv rfl rfl)
                · -- 12: Op.fieldAddr 30 (Operand.tmp 98) 0
                  have e98 : a'.eval (.tmp 98) = .pointer (some ⟨R, 0, none⟩) := KS_val (Deps.val hd 11 98 (by decide +kernel)) rfl
                  clear hd hk
                  exact wp_value (.pointer (some ⟨R, 0, none⟩)) (by simp only [execOp, e98]; go_simp) (KS_mkv rfl rfl)
                · -- 13: Op.load 28 (Operand.tmp 99)
                  have e99 : a'.eval (.tmp 99) = .pointer (some ⟨R, 0, none⟩) := KS_val (Deps.val hd 12 99 (by decide +kernel)) rfl
                  have c_ : w'.cell? ⟨R, 0, none⟩ = some (.slice a n_ cp) := ((HS.out.d.kept L6.out).kept hg).cell (j := 0) rfl
                  clear hd hk
                  exact wp_value (.slice a n_ cp) (by simp only [execOp, e99]; go_simp) (KS_mkv rfl rfl)
                · -- 14: Op.move (Operand.tmp 5)
                  have e5 : a'.eval (.tmp 5) = .int .i64 (i : Int) := hk.at 5 (by decide +kernel)
                  exact wp_value _ (by simp only [execOp, e5]; rfl) (KS_mkv rfl rfl)
                · -- 15: Op.slice 28 (Operand.tmp 100) (some (Operand.tmp 101)) none 
                  have e100 : a'.eval (.tmp 100) = .slice a n_ cp := KS_val (Deps.val hd 13 100 (by decide +kernel)) rfl
                  have e101 : a'.eval (.tmp 101) = .int .i64 (i : Int) := KS_val (Deps.val hd 14 101 (by decide +kernel)) rfl
                  clear hd hk
                  exact wp_value _ (by simp only [execOp, Option.map_some, Option.map_none, e100, e101, hs2, Sem.run_bind, Sem.run_pure, Result.andThen_ok]) (KS_mkv rfl rfl)
                · -- 16: Op.call ( callee := Callee.builtin Builtin.append, args := #
                  have r96 := KS_of (Deps.val hd 9 96 (by decide +kernel)) rfl
                  have e102 : a'.eval (.tmp 102) = .slice a2 (n_ - i) (cp - i) := KS_val (Deps.val hd 15 102 (by decide +kernel)) rfl
                  obtain ⟨g_, eg_, hg_⟩ := r96
                  rw [eg_] at hg_
                  obtain ⟨v_, w_, hr_, h2_, h3_⟩ := run_append_rd (E := PE) (P := Try.prog) w' 28 28 28 38 ti tz 40 Try.underlying28 hti hz0 hz1 hz2 hz3 g_ 1 _ hg_ (.slice a2 (n_ - i) (cp - i)) (L.drop i) ((hs3 _ _ (((HS.out.own.rd).kept L6.out).kept hg)).src 28 38 Try.underlying28) (by rw [List.length_drop, HN.out]; simp only [maxLen]; omega) (by rw [List.length_drop, HN.out]; omega)
                  refine wp_grow v_ w_ ?_ h3_ (KS_mko rfl h2_)
                  simp only [execOp, resolve, invoke, builtin, Sem.run_bind, Sem.run_pure, Result.andThen_ok, List.map_toArray, List.map_cons, List.map_nil, eg_, e102, hr_]
                · -- 17: Op.call ( callee := Callee.builtin Builtin.append, args := #
                  have e94 : a'.eval (.tmp 94) = .slice (a) i i := KS_val (Deps.val hd 7 94 (by decide +kernel)) rfl
                  have r103 := KS_of (Deps.val hd 16 103 (by decide +kernel)) rfl
                  have hlr_ : ([p] ++ L.drop i).length = 1 + (n_ - i) := by rw [List.length_append, List.length_drop, HN.out]; rfl
                  obtain ⟨v_, w_, hr_, h2_, h3_, -⟩ := run_append_full (E := PE) (P := Try.prog) w' w.heap.size 28 28 28 38 ti tz 40 Try.underlying28 hti hz0 hz1 hz2 hz3 (a) i _ (hs4 _ _ (((HS.out.own.rd).kept L6.out).kept hg)) (a'.eval (.tmp 103)) ([p] ++ L.drop i) (r103.src 28 38 Try.underlying28) (by rw [hlr_]; omega) (by rw [hlr_]; simp only [maxLen]; omega) (by rw [hlr_]; omega) (Nat.le_trans L6.out.size hg.size)
                  refine wp_grow v_ w_ ?_ h3_ (KS_mko rfl h2_)
                  simp only [execOp, resolve, invoke, builtin, Sem.run_bind, Sem.run_pure, Result.andThen_ok, List.map_toArray, List.map_cons, List.map_nil, e94, hr_]
                · -- 18: Op.nilCheck (Operand.tmp 87)
                  have e87 : a'.eval (.tmp 87) = .pointer (some ⟨R, 0, none⟩) := KS_val (Deps.val hd 0 87 (by decide +kernel)) rfl
                  clear hd hk
                  exact wp_value (.pointer (some ⟨R, 0, none⟩)) (by simp only [execOp, e87]; go_simp) (KS_mkv rfl rfl)
                · -- 19: Op.fieldAddr 30 (Operand.tmp 105) 0
                  have e105 : a'.eval (.tmp 105) = .pointer (some ⟨R, 0, none⟩) := KS_val (Deps.val hd 18 105 (by decide +kernel)) rfl
                  clear hd hk
                  exact wp_value (.pointer (some ⟨R, 0, none⟩)) (by simp only [execOp, e105]; go_simp) (KS_mkv rfl rfl)
              · intro a' w7 hsz hdf hk hall hg
                have e87 : a'.eval (.tmp 87) = .pointer (some ⟨R, 0, none⟩) := KS_val (hall 0 _ 87 (by decide) rfl rfl) rfl
                have e88 : a'.eval (.tmp 88) = .pointer (some ⟨R, 0, none⟩) := KS_val (hall 1 _ 88 (by decide) rfl rfl) rfl
                have e89 : a'.eval (.tmp 89) = .pointer (some ⟨R, 0, none⟩) := KS_val (hall 2 _ 89 (by decide) rfl rfl) rfl
                have e90 : a'.eval (.tmp 90) = .pointer (some ⟨R, 0, none⟩) := KS_val (hall 3 _ 90 (by decide) rfl rfl) rfl
                have e91 : a'.eval (.tmp 91) = .slice a n_ cp := KS_val (hall 4 _ 91 (by decide) rfl rfl) rfl
                have e92 : a'.eval (.tmp 92) = .int .i64 (i : Int) := KS_val (hall 5 _ 92 (by decide) rfl rfl) rfl
                have e93 : a'.eval (.tmp 93) = .int .i64 (i : Int) := KS_val (hall 6 _ 93 (by decide) rfl rfl) rfl
                have e94 : a'.eval (.tmp 94) = .slice (a) i i := KS_val (hall 7 _ 94 (by decide) rfl rfl) rfl
                have e95 : a'.eval (.tmp 95) = .agg (PC p).toArray := KS_val (hall 8 _ 95 (by decide) rfl rfl) rfl
                have r96 := KS_of (hall 9 _ 96 (by decide) rfl rfl) rfl
                obtain ⟨x96, e96⟩ : ∃ v, a'.eval (.tmp 96) = v := ⟨_, rfl⟩
                rw [e96] at r96
                have e97 : a'.eval (.tmp 97) = .pointer (some ⟨R, 0, none⟩) := KS_val (hall 10 _ 97 (by decide) rfl rfl) rfl
                have e98 : a'.eval (.tmp 98) = .pointer (some ⟨R, 0, none⟩) := KS_val (hall 11 _ 98 (by decide) rfl rfl) rfl
                have e99 : a'.eval (.tmp 99) = .pointer (some ⟨R, 0, none⟩) := KS_val (hall 12 _ 99 (by decide) rfl rfl) rfl
                have e100 : a'.eval (.tmp 100) = .slice a n_ cp := KS_val (hall 13 _ 100 (by decide) rfl rfl) rfl
                have e101 : a'.eval (.tmp 101) = .int .i64 (i : Int) := KS_val (hall 14 _ 101 (by decide) rfl rfl) rfl
                have e102 : a'.eval (.tmp 102) = .slice a2 (n_ - i) (cp - i) := KS_val (hall 15 _ 102 (by decide) rfl rfl) rfl
                have r103 := KS_of (hall 16 _ 103 (by decide) rfl rfl) rfl
                obtain ⟨x103, e103⟩ : ∃ v, a'.eval (.tmp 103) = v := ⟨_, rfl⟩
                rw [e103] at r103
                have r104 := KS_of (hall 17 _ 104 (by decide) rfl rfl) rfl
                obtain ⟨x104, e104⟩ : ∃ v, a'.eval (.tmp 104) = v := ⟨_, rfl⟩
                rw [e104] at r104
                have e105 : a'.eval (.tmp 105) = .pointer (some ⟨R, 0, none⟩) := KS_val (hall 18 _ 105 (by decide) rfl rfl) rfl
                have e106 : a'.eval (.tmp 106) = .pointer (some ⟨R, 0, none⟩) := KS_val (hall 19 _ 106 (by decide) rfl rfl) rfl
                have D7 := hide ((HS.out.d.kept L6.out).kept hg)
                have O7 := hide r104
                have G7 := hide hg
                have cR_ := D7.out.cell (j := 0) rfl
                have fR_ := D7.out.frozen 0
                obtain ⟨xa, xn, xc, hx_⟩ : ∃ a n c, x104 = .slice a n c := by obtain ⟨xa, xc, h⟩ := r104.rd.slice; exact ⟨_, _, _, h⟩
                subst hx_
                refine ⟨rfl, ?_⟩
                unfold Oper.wp execOp
                simp only [Sem.run_bind, Sem.run_pure, e106, e104]
                go_simp
                show Exit.then _ _ Exit.normal _ _
                have ha := act_puts 107 rfl hsz hdf hk [87, 88, 89, 90, 91, 92, 93, 94, 95, 96, 97, 98, 99, 100, 101, 102, 103, 104, 105, 106] (by decide +kernel)
                simp only [puts, List.foldl_cons, List.foldl_nil, e87, e88, e89, e90, e91, e92, e93, e94, e95, e96, e97, e98, e99, e100, e101, e102, e103, e104, e105, e106] at ha
                simp only [Act.put, List.setIfInBounds_toArray, List.set_cons_succ, List.set_cons_zero] at ha
                clear hall hk hsz hdf hg r104 r96 r103 cR_ fR_ hs1 hs2 hs3 hs4 e87 e88 e89 e90 e91 e92 e93 e94 e95 e96 e97 e98 e99 e100 e101 e102 e103 e104 e105 e106
                subst ha
                have HF : Hid (RBf (w7.setCell ⟨R, 0, none⟩ (.slice xa xn xc)) R (.slice xa xn xc) (wrB L p) ∧ Chg (fun b => b = R) w (w7.setCell ⟨R, 0, none⟩ (.slice xa xn xc))) := (show _ ∧ _ from by
                  have c9 : Chg (fun b => b = R) w7 (w7.setCell ⟨R, 0, none⟩ (.slice xa xn xc)) := Chg.setCell (F := fun b => b = R) _ rfl _ _
                  refine ⟨⟨D7.out.set 0 _, ?_⟩, (Chg.of_below (L6.out.trans (G7.out.mono L6.out.size))).trans c9⟩
                  rw [HW0.out HE9.out, insB_new HSS.out HI0.out HNG.out]
                  exact (O7.out.mono (Nat.zero_le _)).chg c9 (fun b hb => own_ne O7.out D7.out hb))
                clear D7 O7 G7
                obtain ⟨w8, hw8⟩ : ∃ x, x = w7.setCell ⟨R, 0, none⟩ (.slice xa xn xc) := ⟨_, rfl⟩
                rw [← hw8] at HF ⊢
                clear hw8
                go_wp2_with fail
                go_ret
                exact ⟨by rw [HE9.out]; rfl, _, HF.out.1, HF.out.2⟩
#print axioms rput_any
end Go.Proofs.Ytfjlkncliljjnaa
