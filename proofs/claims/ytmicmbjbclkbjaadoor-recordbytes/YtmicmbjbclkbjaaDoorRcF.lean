/-
  Read: what the call does.
-/
import Derived.Test.YtmicmbjbclkbjaaDoorRcE
namespace Go.Proofs.YtmicmbjbclkbjaaDoor
open Go.RowKit
theorem results_re {fn : Func} {p u : Tmp} (h : fn.results = #[.cell p 25, .tmp u]) (tmps : Array Value) (w : World) (g : Nat) (x : Rc) (n : Int) (hp : tmps.getD p undef = .pointer (some ⟨g, 0, none⟩)) (hn : tmps.getD u undef = .int .i64 n) (hB : Blk w g 25 (RC x)) :
    (results fn tmps).run Tryd.prog w = .ok (.tuple #[.agg (RC x).toArray, .int .i64 n]) w := by
  rw [results_cell_tmp h, hp, hn]
  have := run_loadVar_mid (P := Tryd.prog) w g 0 25 (RC x) _ hB.range0 Tryd.underlying25 rfl Tryd.size25
  simp [asAddr, this]
/-- What Read tells of bytes: their record, or the error. -/
def RdPost (l : List UInt8) (e : Ending) (w' : World) : Prop := ∃ (r : Rc) (x : Int), e = .returned (.tuple #[.agg (RC r).toArray, .int .i64 x]) ∧ ROk w' r ∧ ((x = 0 ∧ soundP r = true ∧ eD (pdR r) = l ∧ l.length ≤ 8192) ∨ (x = 4 ∧ r = zr ∧ ∀ r2, soundP r2 = true → eD (pdR r2) = l → 8192 < l.length))
theorem zr_ok (w : World) : ROk w zr := ⟨RdX.nil w, RdG_nil w⟩
theorem sound_pd {r r2 : Rc} (h : pdR r = pdR r2) (h1 : 0 ≤ r.ses) (h2 : 0 ≤ r.snap) (h3 : soundP r2 = true) : soundP r = true := by
  obtain ⟨_, g1, g2⟩ := sound_ok h3
  unfold pdR at h
  rw [Pd.mk.injEq] at h
  obtain ⟨e1, e2, e3, e4, e5⟩ := h
  unfold soundP at h3 ⊢
  rw [show r.ses = r2.ses by omega, show r.snap = r2.snap by omega, e4, e5]
  exact h3
theorem read_all {l : List UInt8} {r2 : Rc} (h : soundP r2 = true) (he : eD (pdR r2) = l) : pD l = some (pdR r2, []) := by
  have := pD_eD (sound_ok h).1 []
  rwa [List.append_nil, he] at this
theorem build_zr : ∀ W : World, (Instr.build 25 #[]).run Tryd.prog W = .ok (.agg (RC zr).toArray) W := fun W => by kernel_rfl
theorem zeroSo (W : World) : (zeroValue 55).run Tryd.prog W = .ok (.agg #[.nilFunc, .nilFunc, .nilFunc, .nilFunc, .nilFunc]) W := by kernel_rfl
set_option maxHeartbeats 2000000 in
set_option maxRecDepth 100000 in
theorem jread16_any {w : World} {v : Value} {l : List UInt8} (hr : Rd w v l) (hl : l.length ≤ 140737488355328) : Calls Tryd.prog 16 #[v] w fun e w' => RdPost l e w' ∧ Below w.heap.size w w' := by
  obtain ⟨a, cap, rfl⟩ := hr.slice
  obtain ⟨N, HN⟩ : ∃ N, Hid (w.heap.size = N) := ⟨_, rfl⟩
  obtain ⟨n, Hn⟩ : ∃ z, Hid (l.length = z) := ⟨_, rfl⟩
  obtain ⟨w1, hw1⟩ : ∃ y, y = w.alloc (.cells (RC zr).toArray 25 (0, 0)) := ⟨_, rfl⟩
  obtain ⟨b1, l1⟩ := newB HN hw1
  have HW1 := hide hw1
  have R1 := hide (hr.kept l1.out)
  rw [Hn.out] at R1 hl ⊢
  have hz := zeroR
  have hb := build_zr
  have hzs := zeroSo
  have HNL : Hid (N < w1.heap.size) := (show _ < _ from b1.out.lt)
  clear hr hw1
  by_cases hn : 8192 < n
  · have q1 : decide ((8192 : Int) < (n : Int)) = true := by simp; omega
    have PZ : Hid (∀ W, RdPost l (.returned (.tuple #[.agg (RC zr).toArray, .int .i64 4])) W) := (show ∀ W, _ from fun W => ⟨zr, 4, rfl, zr_ok W, .inr ⟨rfl, rfl, fun r2 _ _ => by rw [Hn.out]; exact hn⟩⟩)
    go_enter Tryd.func16, Tryd.ntmps16
    go_upto_region 1 with fail
    change Code.wp _ _ _ _ (w.alloc (.cells (RC zr).toArray 25 (0, 0)))
    rw [← HW1.out, HN.out]
    go_wp2_with (first
      | (refine wpList_store_blk rfl 25 (.tmp 2) (.tmp 9) rfl N (RC zr) (RC zr) 25 rfl rfl b1.out rfl Tryd.size25 (RC_one zr) ?_; intro w8 hb8 hu8)
      | fail)
    refine bodyPost_ret (results_re rfl _ _ N zr 4 rfl rfl hb8) rfl ⟨PZ.out _, l1.out.trans (hu8.below (by rw [HN.out]; omega) (by have := l1.out.size; omega))⟩
  · have q1 : decide ((8192 : Int) < (n : Int)) = false := by simp; omega
    have CS := hide (sourceOf_any R1.out (by rw [Hn.out]; omega))
    go_enter Tryd.func16, Tryd.ntmps16
    go_upto_region 1 with fail
    change Code.wp _ _ _ _ (w.alloc (.cells (RC zr).toArray 25 (0, 0)))
    rw [← HW1.out, HN.out]
    go_wp2_with fail
    refine CS.out.mono ?_
    rintro e w2 ⟨Bb, Br, Bt, rfl, s2, hb2⟩
    have S2 := hide s2
    have L2 : Hid (Below w1.heap.size w1 w2) := (show Below _ _ _ from hb2)
    obtain ⟨G, HG⟩ : ∃ z, Hid (w2.heap.size = z) := ⟨_, rfl⟩
    obtain ⟨w3, hw3⟩ : ∃ y, y = w2.alloc (.cells (SC6 Bb Br Bt).toArray 55 (0, 0)) := ⟨_, rfl⟩
    obtain ⟨b3, l3⟩ := newB (A := SC6 Bb Br Bt) HG hw3
    have HW3 := hide hw3
    have S3 := hide (S2.out.kept l3.out)
    have CR := hide (srecord_any S3.out)
    have rk3 := b3.out.range0
    clear s2 hb2 CS hw3
    go_upto_region 4 with (first
      | (refine wpList_store_new rfl 55 _ _ rfl w2 _ (SC6 Bb Br Bt).toArray _ rfl rfl rfl Tryd.size55 rfl (all_one (SC6_one Bb Br Bt)) ?_; rw [← HW3.out, HG.out])
      | fail)
    try simp only [Act.put]
    go_wp2_with (first
      | (refine wpList_load_mid rfl 55 _ rfl G 0 rfl (SC6 Bb Br Bt) _ rk3 Tryd.underlying55 rfl Tryd.size55 ?_)
      | fail)
    refine CR.out.mono ?_
    rintro e w4 ⟨r, rfl, o4, s4, p4, ha4, hb4, c4⟩
    have O4 := hide o4
    have S4 := hide s4
    have P4 := hide p4
    have HA4 : Hid (0 ≤ r.ses ∧ 0 ≤ r.snap) := (show _ ∧ _ from ⟨ha4, hb4⟩)
    have L3 : Hid (Below w1.heap.size w1 w3) := (show Below _ _ _ from L2.out.trans (l3.out.mono L2.out.size))
    have L4 : Hid (Below w1.heap.size w1 w4) := (show Below _ _ _ from L3.out.trans (S3.out.below c4))
    have B34 : Hid (Blk w4 G 55 (SC6 Bb Br Bt)) := (show Blk _ _ _ _ from b3.out.chg c4 (S3.out.neT b3.out (by decide) (by decide)))
    obtain ⟨M, HM⟩ : ∃ z, Hid (w4.heap.size = z) := ⟨_, rfl⟩
    obtain ⟨w5, hw5⟩ : ∃ y, y = w4.alloc (.cells (RC r).toArray 25 (0, 0)) := ⟨_, rfl⟩
    obtain ⟨b5, l5⟩ := newB HM hw5
    have HW5 := hide hw5
    have S5 := hide (S4.out.kept l5.out)
    have RO5 : Hid (ROk w5 r) := (show ROk _ _ from (o4.kept l5.out).rd)
    have L5 : Hid (Below w1.heap.size w1 w5) := (show Below _ _ _ from L4.out.trans (l5.out.mono L4.out.size))
    have B35 := hide (B34.out.kept l5.out)
    have BN5 := hide (b1.out.kept L5.out)
    have CD := hide (sdone_any S5.out)
    have CI := hide (isSound_any RO5.out)
    obtain ⟨dn, Hdn⟩ : ∃ z, Hid (decide (aft pD (some l) = some []) = z) := ⟨_, rfl⟩
    rw [Hdn.out] at CD
    obtain ⟨sd, Hsd⟩ : ∃ z, Hid (soundP r = z) := ⟨_, rfl⟩
    rw [Hsd.out] at CI
    have rk5 := b5.out.range0
    have d4 := B35.out.cell (j := 4) rfl
    clear o4 s4 p4 ha4 hb4 c4 CR rk3 hw5
    go_upto_region 5 with (first
      | (refine wpList_store_new rfl 25 _ _ rfl w4 _ (RC r).toArray _ rfl rfl rfl Tryd.size25 rfl (all_one (RC_one r)) ?_; rw [← HW5.out, HM.out])
      | fail)
    try simp only [Act.put]
    go_wp2_with fail
    refine CD.out.mono ?_
    rintro e w_ ⟨rfl, hw_⟩
    subst w_
    clear CD d4
    have LB : Hid (∀ w6 w7, Below w5.heap.size w5 w6 → But N w6 w7 → Below w.heap.size w w7) := (show ∀ w6 w7, _ from fun w6 w7 h6 h7 => by
      have e1 : Below w.heap.size w w6 := l1.out.trans ((L5.out.trans (h6.mono L5.out.size)).mono l1.out.size)
      exact e1.trans (h7.below (by rw [HN.out]; omega) e1.size))
    cases dn with
    | false =>
      have PZ : Hid (∀ W, RdPost l (.returned (.tuple #[.agg (RC zr).toArray, .int .i64 4])) W) := (show ∀ W, _ from fun W => ⟨zr, 4, rfl, zr_ok W, .inr ⟨rfl, rfl, fun r2 h1 h2 => by
        have h3 := of_decide_eq_false Hdn.out
        exact absurd (aft_some (read_all h1 h2)) h3⟩⟩)
      clear CI
      go_wp2_with (first
        | (refine wpList_store_blk rfl 25 (.tmp 2) (.tmp 23) rfl N (RC zr) (RC zr) 25 rfl rfl BN5.out rfl Tryd.size25 (RC_one zr) ?_; intro w8 hb8 hu8)
        | fail)
      refine bodyPost_ret (results_re rfl _ _ N zr 4 rfl rfl hb8) rfl ⟨PZ.out _, LB.out w5 w8 (Below.refl _ _) hu8⟩
    | true =>
      have HE : Hid (∃ d, pD l = some (d, []) ∧ pdR r = d) := (show ∃ d, _ from by
        have h3 := of_decide_eq_true Hdn.out
        cases hp : pD l with
        | none => rw [aft_no hp] at h3; cases h3
        | some q =>
          obtain ⟨d, z⟩ := q
          rw [aft_some hp] at h3
          have hz := Option.some.inj h3
          subst hz
          exact ⟨d, rfl, P4.out d [] (by simp [hp])⟩)
      go_wp2_with (first
        | (refine wpList_load_w9 rfl 25 _ rfl M 0 rfl (RC r) _ rk5 Tryd.underlying25 rfl Tryd.size25 ?_)
        | fail)
      refine CI.out.mono ?_
      rintro e w6 ⟨rfl, hb6⟩
      have L6 : Hid (Below w5.heap.size w5 w6) := (show Below _ _ _ from hb6)
      have BN6 := hide (BN5.out.kept L6.out)
      have rk6 := (b5.out.kept L6.out).range0
      clear hb6 CI rk5
      cases sd with
      | false =>
        have PZ : Hid (∀ W, RdPost l (.returned (.tuple #[.agg (RC zr).toArray, .int .i64 4])) W) := (show ∀ W, _ from fun W => ⟨zr, 4, rfl, zr_ok W, .inr ⟨rfl, rfl, fun r2 h1 h2 => by
          obtain ⟨d, h3, h4⟩ := HE.out
          rw [read_all h1 h2] at h3
          have h5 : pdR r2 = d := (Prod.mk.inj (Option.some.inj h3)).1
          have h6 := sound_pd (h4.trans h5.symm) HA4.out.1 HA4.out.2 h1
          rw [Hsd.out] at h6
          cases h6⟩⟩)
        go_wp2_with (first
          | (refine wpList_store_blk rfl 25 (.tmp 2) (.tmp 23) rfl N (RC zr) (RC zr) 25 rfl rfl BN6.out rfl Tryd.size25 (RC_one zr) ?_; intro w8 hb8 hu8)
          | fail)
        refine bodyPost_ret (results_re rfl _ _ N zr 4 rfl rfl hb8) rfl ⟨PZ.out _, LB.out w6 w8 L6.out hu8⟩
      | true =>
        have HF : Hid (soundP r = true ∧ eD (pdR r) = l ∧ l.length ≤ 8192) := (show _ ∧ _ ∧ _ from by
          obtain ⟨d, h3, h4⟩ := HE.out
          have h5 := (pD_ok h3).1
          rw [List.append_nil] at h5
          exact ⟨Hsd.out, by rw [h4]; exact h5.symm, by rw [Hn.out]; omega⟩)
        go_wp2_with (first
          | (refine wpList_load_mid rfl 25 _ rfl M 0 rfl (RC r) _ rk6 Tryd.underlying25 rfl Tryd.size25 ?_)
          | (refine wpList_store_blk rfl 25 (.tmp 2) (.tmp 24) rfl N (RC zr) (RC r) 25 rfl rfl BN6.out rfl Tryd.size25 (RC_one r) ?_; intro w8 hb8 hu8)
          | fail)
        have C8 : Chg (fun j => j = N) w6 w8 := Chg.of_but hu8 rfl
        refine bodyPost_ret (results_re rfl _ _ N r 0 rfl rfl hb8) rfl ⟨⟨r, 0, rfl, ?_, .inl ⟨rfl, HF.out⟩⟩, LB.out w6 w8 L6.out hu8⟩
        exact (((O4.out.kept l5.out).kept L6.out).chg BN6.out C8).rd
#print axioms jread16_any
end Go.Proofs.YtmicmbjbclkbjaaDoor
