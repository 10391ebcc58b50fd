/-
  chain's Since, Cut, Get: what the calls do.
-/
import Derived.Test.YtgaoionnfkbhaaaChB
namespace Go.Proofs.Ytgaoionnfkbhaaa
open Go.RowKit

theorem past_length {L : List Ver} (n : Int) (h : Rise L) : (past n L).length = L.length - (upto n L).length := by
  have := congrArg List.length (split_rise n h)
  rw [List.length_append] at this
  omega

set_option maxHeartbeats 1000000 in
set_option maxRecDepth 100000 in
theorem since_any {w : World} {v : Value} {L : List Ver} (h : RdV w v L) (hl : L.length ≤ 4398046511104) (snap : Int) :
    Calls Try.prog 34 #[v, .int .i64 snap] w fun e w' => e = .returned (.int .i64 (sinceP L snap : Int)) ∧ Below w.heap.size w w' := by
  have HL := hide h
  obtain ⟨a, cp, rfl⟩ := h.slice
  clear h
  obtain ⟨n, HN⟩ : ∃ n, Hid (L.length = n) := ⟨_, rfl⟩
  rw [HN.out] at HL hl ⊢
  go_enter Try.func34, Try.ntmps34
  go_wp2_with fail
  refine (good_any HL.out).mono ?_
  rintro e w5 ⟨rfl, hb5⟩
  have L5 := hide hb5
  clear hb5
  obtain ⟨q, HQ⟩ : ∃ q, Hid (gd 0 L = q) := ⟨_, rfl⟩
  rw [HQ.out]
  cases q with
  | false =>
    have HF : Hid (sinceP L snap = 0) := (show _ = _ by unfold sinceP; rw [HQ.out]; rfl)
    go_wp2_with fail
    go_ret
    exact ⟨by rw [HF.out]; rfl, L5.out⟩
  | true =>
    have hr := (gd_rise HQ.out).1
    have hu := upto_le snap L
    rw [HN.out] at hu
    have HF : Hid ((sinceP L snap : Int) = (n : Int) - ((upto snap L).length : Int)) := (show _ = _ by
      unfold sinceP
      rw [if_pos HQ.out, past_length snap hr, HN.out]
      omega)
    go_wp2_with fail
    refine (upTo_any (HL.out.kept L5.out) hr (by rw [HN.out]; exact hl) snap).mono ?_
    rintro e w6 ⟨rfl, hb6⟩
    have L6 : Hid (Below w.heap.size w w6) := L5.out.trans (hb6.mono L5.out.size)
    clear hb6 hr
    generalize (upto snap L).length = u at hu HF ⊢
    go_wp2_with fail
    go_ret
    exact ⟨by rw [HF.out]; rfl, L6.out⟩
#print axioms since_any

theorem upto_last {L : List Ver} {n : Int} (hr : Rise L) (hp : 0 < (upto n L).length) : (upto n L).getLast? = some (L[(upto n L).length - 1]'(by have := upto_le n L; omega)) := by
  rw [List.getLast?_eq_getElem?, List.getElem?_eq_getElem (by omega)]
  congr 1
  have hlt : (upto n L).length - 1 < (upto n L).length := by omega
  have e : L[(upto n L).length - 1]? = (upto n L)[(upto n L).length - 1]? := by
    conv => lhs; arg 1; rw [split_rise n hr]
    rw [List.getElem?_append_left hlt]
  rw [List.getElem?_eq_getElem hlt, List.getElem?_eq_getElem (by have := upto_le n L; omega)] at e
  exact (Option.some.inj e).symm

theorem upto_last' {L : List Ver} {n : Int} (hr : Rise L) (hp : 0 < (upto n L).length) : (upto n L).getLast? = L[(upto n L).length - 1]? := by
  rw [upto_last hr hp, List.getElem?_eq_getElem]
/-- A version is stored over another. -/
theorem wpList_store_ver {P : Program} {ops : Array Oper} {rest : List Oper} {op : Oper} {a : Act} {w : World} {Q : Exit → Act → World → Prop} (hgd : op.guard = none) (ty : TypeId) (x y : Operand) (ho : op.op = .store ty x y)
    (g : Nat) (v u : Ver) (hx : a.eval x = .pointer (some ⟨g, 0, none⟩)) (hy : a.eval y = .agg (VC v).toArray) (T : TypeId) (hB : Blk w g T (VC u)) (hi : (P.info? ty).map (·.size) = some 3)
    (h : ∀ w', Hid (Blk w' g T (VC v)) → Hid (But g w w') → wpList P ops Q rest (a.put op.dst undef) w') : wpList P ops Q (op :: rest) a w := by
  refine wpList_store_mid hgd ty x y ho g 0 (VC v).toArray hx hy (hB.there 0 3 (by simp [VC_length])) hi (all_one (VC_one v)) ?_
  have hb := Blk.over (VC v) hB 0 (by simp [VC_length])
  rw [over_all _ _ (by rfl)] at hb
  exact h _ hb (But.setCells g (VC v) 0 w)
theorem results_ver {P : Program} {fn : Func} {p u : Tmp} {ty : TypeId} (h : fn.results = #[.cell p ty, .tmp u]) (tmps : Array Value) (w : World) (g : Nat) (v : Ver) (b : Bool) (T : TypeId) (d : TypeDesc) (hp : tmps.getD p undef = .pointer (some ⟨g, 0, none⟩)) (hb : tmps.getD u undef = .bool b) (hB : Blk w g T (VC v))
    (hu : P.underlying ty = some d) (hd : d.isRow = true) (hi : (P.info? ty).map (·.size) = some 3) : (results fn tmps).run P w = .ok (.tuple #[.agg (VC v).toArray, .bool b]) w := by
  rw [results_cell_tmp h, hp, hb]
  have := run_loadVar_mid (P := P) w g 0 ty (VC v) d hB.range0 hu hd hi
  simp [asAddr, this]
theorem getP_bad {L : List Ver} (h : gd 0 L = false) (n : Int) : getP L n = (zv, false) := by unfold getP; rw [h]; rfl
theorem getP_none {L : List Ver} {n : Int} (h : gd 0 L = true) (hu : (upto n L).length = 0) : getP L n = (zv, false) := by
  unfold getP
  rw [if_pos h, List.eq_nil_of_length_eq_zero hu]
  rfl
theorem getP_some {L : List Ver} {n : Int} {v : Ver} (h : gd 0 L = true) (hu : (upto n L).getLast? = some v) : getP L n = if v.2.2 = true then (zv, false) else (v, true) := by
  unfold getP
  rw [if_pos h, hu]

set_option maxHeartbeats 1000000 in
set_option maxRecDepth 100000 in
theorem get_any {w : World} {v : Value} {L : List Ver} (h : RdV w v L) (hl : L.length ≤ 4398046511104) (snap : Int) :
    Calls Try.prog 39 #[v, .int .i64 snap] w fun e w' => e = .returned (.tuple #[.agg (VC (getP L snap).1).toArray, .bool (getP L snap).2]) ∧ Below w.heap.size w w' := by
  have HL := hide h
  obtain ⟨a, cp, rfl⟩ := h.slice
  clear h
  have hz := Zver
  obtain ⟨n, HN⟩ : ∃ n, Hid (L.length = n) := ⟨_, rfl⟩
  rw [HN.out] at HL hl ⊢
  have B1 := hide (Blk.new w 76 (VC zv))
  have L1 := hide ((Below.refl w.heap.size w).alloc (Nat.le_refl _) (.cells (VC zv).toArray 76 (0, 0)))
  go_enter Try.func39, Try.ntmps39
  go_wp2_with fail
  refine (good_any (HL.out.kept L1.out)).mono ?_
  rintro e w5 ⟨rfl, hb5⟩
  obtain ⟨G, HG⟩ : ∃ G, Hid (w.heap.size = G) := ⟨_, rfl⟩
  have L5 : Hid (Below w.heap.size w w5) := L1.out.trans (hb5.mono L1.out.size)
  have B5 : Hid (Blk w5 G 76 (VC zv)) := (show Blk _ _ _ _ by rw [← HG.out]; exact B1.out.kept hb5)
  rw [HG.out]
  clear hb5 B1 L1
  obtain ⟨q, HQ⟩ : ∃ q, Hid (gd 0 L = q) := ⟨_, rfl⟩
  rw [HQ.out]
  cases q with
  | false =>
    have HF := hide (getP_bad HQ.out snap)
    go_wp2_with (first
      | (refine wpList_buildK rfl 76 #[] rfl (.agg (VC zv).toArray) (by kernel_rfl) ?_)
      | (refine wpList_store_ver rfl 76 _ _ rfl G zv zv rfl rfl 76 B5.out Try.size76 ?_; intro w7 B7 T7)
      | fail)
    refine bodyPost_ret (results_ver rfl _ _ G zv false 76 _ rfl rfl B7.out Try.underlying76 rfl Try.size76) rfl ⟨by rw [HF.out], ?_⟩
    exact L5.out.trans ((T7.out.below (by rw [← HG.out]; exact Nat.le_refl _) L5.out.size))
  | true =>
    have hr := (gd_rise HQ.out).1
    have hu := upto_le snap L
    rw [HN.out] at hu
    have HUL := hide (fun hp => upto_last' (n := snap) hr hp)
    have HU0 := hide (fun hp => getP_none (n := snap) HQ.out hp)
    go_wp2_with fail
    refine (upTo_any (HL.out.kept L5.out) hr (by rw [HN.out]; exact hl) snap).mono ?_
    rintro e w6 ⟨rfl, hb6⟩
    have L6 : Hid (Below w.heap.size w w6) := L5.out.trans (hb6.mono L5.out.size)
    have B6 : Hid (Blk w6 G 76 (VC zv)) := B5.out.kept hb6
    clear hb6 hr B5
    generalize (upto snap L).length = u at hu HUL HU0 ⊢
    by_cases h0 : u = 0
    · subst h0
      have HF := hide (HU0.out rfl)
      go_wp2_with (first
        | (refine wpList_buildK rfl 76 #[] rfl (.agg (VC zv).toArray) (by kernel_rfl) ?_)
        | (refine wpList_store_ver rfl 76 _ _ rfl G zv zv rfl rfl 76 B6.out Try.size76 ?_; intro w7 B7 T7)
        | fail)
      refine bodyPost_ret (results_ver rfl _ _ G zv false 76 _ rfl rfl B7.out Try.underlying76 rfl Try.size76) rfl ⟨by rw [HF.out], ?_⟩
      exact L6.out.trans ((T7.out.below (by rw [← HG.out]; exact Nat.le_refl _) L6.out.size))
    · have q1 : ((u : Int) == 0) = false := by simp; omega
      have hul := HUL.out (by omega)
      obtain ⟨b, off, rfl, hlb, hx⟩ := (HL.out.kept L6.out).nth (by omega)
      have hlt' : u - 1 < L.length := by rw [HN.out]; omega
      have hrg := hx (u - 1) hlt'
      rw [List.getElem?_eq_getElem hlt'] at hul
      generalize L[u - 1] = p at hrg hul
      have HF1 := hide (getP_some HQ.out hul)
      obtain ⟨x, s, d⟩ := p
      have c2 := hrg 2 _ rfl
      simp only at c2
      have e1 : (u : Int) - 1 = ((u - 1 : Nat) : Int) := by omega
      have e2 : ((u - 1 : Nat) : Int) < (n : Int) := by omega
      clear hx hul HUL HU0
      cases d with
      | true =>
        have HF : Hid (getP L snap = (zv, false)) := HF1.out
        go_wp2_with (first
          | (refine wpList_buildK rfl 76 #[] rfl (.agg (VC zv).toArray) (by kernel_rfl) ?_)
          | (refine wpList_store_ver rfl 76 _ _ rfl G zv zv rfl rfl 76 B6.out Try.size76 ?_; intro w7 B7 T7)
          | fail)
        refine bodyPost_ret (results_ver rfl _ _ G zv false 76 _ rfl rfl B7.out Try.underlying76 rfl Try.size76) rfl ⟨by rw [HF.out], ?_⟩
        exact L6.out.trans ((T7.out.below (by rw [← HG.out]; exact Nat.le_refl _) L6.out.size))
      | false =>
        have HF : Hid (getP L snap = ((x, s, false), true)) := HF1.out
        go_wp2_with (first
          | (refine wpList_load_mid rfl 76 _ rfl b (off + (u - 1) * 3) rfl (VC (x, s, false)) _ hrg Try.underlying76 rfl Try.size76 ?_)
          | (refine wpList_store_ver rfl 76 _ _ rfl G (x, s, false) zv rfl rfl 76 B6.out Try.size76 ?_; intro w7 B7 T7)
          | fail)
        refine bodyPost_ret (results_ver rfl _ _ G (x, s, false) true 76 _ rfl rfl B7.out Try.underlying76 rfl Try.size76) rfl ⟨by rw [HF.out], ?_⟩
        exact L6.out.trans ((T7.out.below (by rw [← HG.out]; exact Nat.le_refl _) L6.out.size))
#print axioms get_any
end Go.Proofs.Ytgaoionnfkbhaaa
