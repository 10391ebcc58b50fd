/-
  What is got: a record; Read: what the calls do.
-/
import Derived.Test.YtmicmbjbclkbjaaDoorRcD
namespace Go.Proofs.YtmicmbjbclkbjaaDoor
open Go.RowKit
def pD4 (a b : Nat) (c : Bool) (rs : List Rp) : Pa Pd := fun l => (pL 64 pW l).map fun w => (⟨a, b, c, rs, w.1⟩, w.2)
def pD3 (a b : Nat) (c : Bool) : Pa Pd := fun l => (pL 64 pR l).bind fun r => pD4 a b c r.1 r.2
def pD2 (a b : Nat) : Pa Pd := fun l => (pF l).bind fun c => pD3 a b c.1 c.2
def pD1 (a : Nat) : Pa Pd := fun l => (pN 1099511627776 l).bind fun b => pD2 a b.1 b.2
theorem bind_ex {α β : Type} {p : Pa α} {f : α → Pa β} {P : Pa β} (hP : ∀ l, P l = (p l).bind fun q => f q.1 q.2) {s : Option (List UInt8)} {y : β} {z : List UInt8} (h : s.bind P = some (y, z)) : ∃ x z1, s.bind p = some (x, z1) ∧ (some z1).bind (f x) = some (y, z) := by
  cases s with
  | none => cases h
  | some l =>
    simp only [Option.bind_some] at h
    rw [hP] at h
    cases hp : p l with
    | none => rw [hp] at h; cases h
    | some q =>
      obtain ⟨x, z1⟩ := q
      rw [hp] at h
      exact ⟨x, z1, by simp [hp], h⟩
/-- What is told of a record that was got. -/
def RePost (w0 : World) (Bb Br Bt : Nat) (s : Option (List UInt8)) (w : World) (e : Ending) (w' : World) : Prop := ∃ r, e = .returned (.agg (RC r).toArray) ∧ OwnRc w' w.heap.size r ∧ SrcAt w0 w' Bb Br Bt (aft pD s) ∧ (∀ d z, s.bind pD = some (d, z) → pdR r = d) ∧ 0 ≤ r.ses ∧ 0 ≤ r.snap ∧ Chg (GF Bb Br) w w'
theorem OwnRc.chgB {w w' : World} {B : Nat} {r : Rc} {F : Nat → Prop} (h : OwnRc w B r) (hc : Chg F w w') (hF : ∀ k, B ≤ k → ¬ F k) : OwnRc w' B r :=
  ⟨⟨h.rs.row.chg hc fun k hk => hF k (h.rs.row.block hk).1, fun y hy => (h.rs.ps y hy).chg hc fun k hk => hF k ((h.rs.ps y hy).block hk).1⟩, h.ws.chg hc fun k hk => hF k (h.ws.block hk).1⟩
theorem OwnR9.chgB {w w' : World} {B : Nat} {v : Value} {L : List Rz} {F : Nat → Prop} (h : OwnR9 w B v L) (hc : Chg F w w') (hF : ∀ k, B ≤ k → ¬ F k) : OwnR9 w' B v L :=
  ⟨h.row.chg hc fun k hk => hF k (h.row.block hk).1, fun y hy => (h.ps y hy).chg hc fun k hk => hF k ((h.ps y hy).block hk).1⟩
theorem OwnR9.mono {w : World} {B B' : Nat} {v : Value} {L : List Rz} (h : OwnR9 w B v L) (hB : B' ≤ B) : OwnR9 w B' v L := ⟨h.row.mono hB, fun y hy => (h.ps y hy).mono hB⟩
theorem OwnRc.mono {w : World} {B B' : Nat} {r : Rc} (h : OwnRc w B r) (hB : B' ≤ B) : OwnRc w B' r := ⟨h.rs.mono hB, h.ws.mono hB⟩
theorem build_rec5 (a b : Int) (c : Bool) (p : Option Addr) (n q : Nat) (p' : Option Addr) (n' q' : Nat) : ∀ W : World, (Instr.build 25 #[(0, .int .i64 a), (1, .int .i64 b), (2, .bool c), (3, .slice p n q), (4, .slice p' n' q')]).run Tryd.prog W = .ok (.agg #[.int .i64 a, .int .i64 b, .bool c, .slice p n q, .slice p' n' q']) W := fun W => by kernel_rfl
theorem zeroRr (W : World) : (zeroValue 25).run Tryd.prog W = .ok (.agg #[.int .i64 0, .int .i64 0, .bool false, .slice none 0 0, .slice none 0 0]) W := by kernel_rfl
set_option linter.unusedSimpArgs false in
set_option maxHeartbeats 4000000 in
set_option maxRecDepth 100000 in
theorem srecord_any {w0 w : World} {Bb Br Bt : Nat} {s : Option (List UInt8)} (h : SrcAt w0 w Bb Br Bt s) :
    Calls Tryd.prog 32 #[.agg (SC6 Bb Br Bt).toArray] w fun e w' => RePost w0 Bb Br Bt s w e w' := by
  obtain ⟨N, HN⟩ : ∃ N, Hid (w.heap.size = N) := ⟨_, rfl⟩
  obtain ⟨w1, hw1⟩ : ∃ y, y = (w.alloc (.cells (SC6 Bb Br Bt).toArray 55 (0, 0))).alloc (.cells #[.int .i64 0, .int .i64 0, .bool false, .slice none 0 0, .slice none 0 0] 25 (0, 0)) := ⟨_, rfl⟩
  obtain ⟨bn, bz, l1⟩ := newB2 (A := SC6 Bb Br Bt) (B := [.int .i64 0, .int .i64 0, .bool false, .slice none 0 0, .slice none 0 0]) HN hw1
  have HW := hide hw1
  have BN := bn
  have BZ := bz
  have S0 := hide (h.kept l1.out)
  have h0s : Hid (w0.heap.size ≤ w.heap.size) := (show _ ≤ _ from h.base.size)
  have HNE := hide (S0.out.neT BN.out (by decide) (by decide))
  have HNZ := hide (S0.out.neT BZ.out (by decide) (by decide))
  have HLT : Hid (Bb < w1.heap.size ∧ Br < w1.heap.size) := (show _ ∧ _ from S0.out.lt)
  have HN1 : Hid (w1.heap.size = N + 2) := (show _ = _ by rw [hw1]; simp [HN.out])
  obtain ⟨a, Ha⟩ : ∃ z, Hid (got (pN 8) 0 s = z) := ⟨_, rfl⟩
  obtain ⟨s1, Hs1⟩ : ∃ z, Hid (aft (pN 8) s = z) := ⟨_, rfl⟩
  obtain ⟨b, Hb⟩ : ∃ z, Hid (got (pN 1099511627776) 0 s1 = z) := ⟨_, rfl⟩
  obtain ⟨s2, Hs2⟩ : ∃ z, Hid (aft (pN 1099511627776) s1 = z) := ⟨_, rfl⟩
  obtain ⟨c, Hc⟩ : ∃ z, Hid (got pF false s2 = z) := ⟨_, rfl⟩
  obtain ⟨s3, Hs3⟩ : ∃ z, Hid (aft pF s2 = z) := ⟨_, rfl⟩
  obtain ⟨s4, Hs4⟩ : ∃ z, Hid (aft (pL 64 pR) s3 = z) := ⟨_, rfl⟩
  obtain ⟨s5, Hs5⟩ : ∃ z, Hid (aft (pL 64 pW) s4 = z) := ⟨_, rfl⟩
  have C1 : Hid (∀ W, SrcAt w0 W Bb Br Bt s → Calls Tryd.prog 47 #[.int .u64 8, PT Bb, PT Bt] W fun e w' => e = .returned (.int .i64 (a : Int)) ∧ SrcAt w0 w' Bb Br Bt s1 ∧ Chg (GF Bb Br) W w') := (show ∀ W, _ from fun W hW => by rw [← Ha.out, ← Hs1.out]; exact snum_any hW 8 (by decide))
  have C2 : Hid (∀ W, SrcAt w0 W Bb Br Bt s1 → Calls Tryd.prog 47 #[.int .u64 1099511627776, PT Bb, PT Bt] W fun e w' => e = .returned (.int .i64 (b : Int)) ∧ SrcAt w0 w' Bb Br Bt s2 ∧ Chg (GF Bb Br) W w') := (show ∀ W, _ from fun W hW => by rw [← Hb.out, ← Hs2.out]; exact snum_any hW 1099511627776 (by decide))
  have C3 : Hid (∀ W, SrcAt w0 W Bb Br Bt s2 → Calls Tryd.prog 49 #[PT Bb, PT Bt] W fun e w' => e = .returned (.bool c) ∧ SrcAt w0 w' Bb Br Bt s3 ∧ Chg (GF Bb Br) W w') := (show ∀ W, _ from fun W hW => by rw [← Hc.out, ← Hs3.out]; exact sflag_any hW)
  have C4 : Hid (∀ W, SrcAt w0 W Bb Br Bt s3 → Calls Tryd.prog 55 #[.agg (SC6 Bb Br Bt).toArray, .int .u64 64, .func (.func 56) #[] #[]] W fun e w' => LrPost w0 Bb Br Bt 64 pR s3 W e w') := (show ∀ W, _ from fun W hW => slistR_any hW 64 (by decide))
  have C5 : Hid (∀ W, SrcAt w0 W Bb Br Bt s4 → Calls Tryd.prog 57 #[.agg (SC6 Bb Br Bt).toArray, .int .u64 64, .func (.func 58) #[] #[]] W fun e w' => LsPost w0 Bb Br Bt 64 pW s4 W e w') := (show ∀ W, _ from fun W hW => slistW_any hW 64 (by decide))
  have HPP : Hid (aft pD s = s5 ∧ ∀ d z, s.bind pD = some (d, z) → ∃ rs ws z1 z2, s3.bind (pL 64 pR) = some (rs, z1) ∧ s4.bind (pL 64 pW) = some (ws, z2) ∧ d = ⟨a, b, c, rs, ws⟩) := (show _ ∧ _ from by
    have hP : ∀ l, pD l = (pN 8 l).bind fun q => pD1 q.1 q.2 := fun l => rfl
    have hP1 : ∀ l, pD1 a l = (pN 1099511627776 l).bind fun q => pD2 a q.1 q.2 := fun l => rfl
    have hP2 : ∀ l, pD2 a b l = (pF l).bind fun q => pD3 a b q.1 q.2 := fun l => rfl
    have hP3 : ∀ l, pD3 a b c l = (pL 64 pR l).bind fun q => pD4 a b c q.1 q.2 := fun l => rfl
    refine ⟨?_, fun d z hy => ?_⟩
    · rw [aft_bind (p := pN 8) (f := pD1) hP 0 s, Ha.out, Hs1.out, aft_bind (p := pN 1099511627776) (f := pD2 a) hP1 0 s1, Hb.out, Hs2.out, aft_bind (p := pF) (f := pD3 a b) hP2 false s2, Hc.out, Hs3.out, aft_bind (p := pL 64 pR) (f := pD4 a b c) hP3 [] s3, Hs4.out, aft_map (P := pD4 a b c _) (g := fun t => (⟨a, b, c, got (pL 64 pR) [] s3, t⟩ : Pd)) (p := pL 64 pW) (fun _ => rfl), Hs5.out]
    · have h1 := val_bind (p := pN 8) (f := pD1) hP 0 hy
      rw [Ha.out, Hs1.out] at h1
      have h2 := val_bind (p := pN 1099511627776) (f := pD2 a) hP1 0 h1
      rw [Hb.out, Hs2.out] at h2
      have h3 := val_bind (p := pF) (f := pD3 a b) hP2 false h2
      rw [Hc.out, Hs3.out] at h3
      obtain ⟨rs, z1, h4, h5⟩ := bind_ex (p := pL 64 pR) (f := pD4 a b c) hP3 h3
      have h6 := (val_got (d := []) h4).2
      rw [Hs4.out] at h6
      rw [← h6] at h5
      cases s4 with
      | none => cases h5
      | some l4 =>
        simp only [Option.bind_some, pD4, Option.map_eq_some_iff, Prod.mk.injEq] at h5
        obtain ⟨t, g1, g2, g3⟩ := h5
        exact ⟨rs, t.1, z1, t.2, h4, g1, g2.symm⟩)
  obtain ⟨SB, HSB⟩ : ∃ f : Nat → Option (List UInt8), f = fun b => if b = 0 then s else if b = 1 then s1 else if b = 2 then s2 else if b = 3 then s3 else if b = 4 then s4 else s5 := ⟨_, rfl⟩
  have HB0 : SB 0 = s := by rw [HSB]; rfl
  have HB1 : SB 1 = s1 := by rw [HSB]; rfl
  have HB2 : SB 2 = s2 := by rw [HSB]; rfl
  have HB3 : SB 3 = s3 := by rw [HSB]; rfl
  have HB4 : SB 4 = s4 := by rw [HSB]; rfl
  have HB5 : SB 5 = s5 := by rw [HSB]; rfl
  have HGK : Hid (∀ k, N + 2 ≤ k → ¬ GF Bb Br k) := (show ∀ k, _ from fun k hk e => by have := HLT.out; have := HN1.out; rcases e with e | e <;> omega)
  have hz := zeroRr
  clear hw1 bn bz HSB
  go_enter Tryd.func32, Tryd.ntmps32
  go_upto_region 1 with fail
  change Code.wp _ _ _ _ ((w.alloc (.cells (SC6 Bb Br Bt).toArray 55 (0, 0))).alloc (.cells #[.int .i64 0, .int .i64 0, .bool false, .slice none 0 0, .slice none 0 0] 25 (0, 0)))
  rw [← HW.out, HN.out]
  refine wp_region_chainR (R := Chg (GF Bb Br)) Tryd.mixed (KC (fun i_ => match i_ with | 0 | 3 => .val (.pointer (some ⟨N, 0, none⟩)) | 1 | 4 => .val (.func (.func 47) #[] #[PT Bb, PT Bt]) | 2 => .val (.int .i64 (a : Int)) | 5 => .val (.int .i64 (b : Int)) | 6 => .val (.pointer (some ⟨N, 1, none⟩)) | 7 => .val (.func (.func 49) #[] #[PT Bb, PT Bt]) | 8 => .val (.bool c) | 9 | 11 => .val (.agg (SC6 Bb Br Bt).toArray) | 10 => .of (relChg _) (fun W x => ∃ (p : Option Addr) (c n : Nat) (L : List Rz), x = .slice p n c ∧ L.length = n ∧ OwnR9 W (N + 2) x L ∧ ∀ ys z, s3.bind (pL 64 pR) = some (ys, z) → L.map plR = ys) (fun _ _ _ hr ⟨p, c, n, L, e1, e2, e3, e4⟩ => ⟨p, c, n, L, e1, e2, e3.chgB hr HGK.out, e4⟩) | 12 => .of (relChg _) (fun W x => ∃ (p : Option Addr) (c n : Nat) (L : List Pr), x = .slice p n c ∧ L.length = n ∧ OwnG PE W (N + 2) 43 x L ∧ ∀ ys z, s4.bind (pL 64 pW) = some (ys, z) → L = ys) (fun _ _ _ hr ⟨p, c, n, L, e1, e2, e3, e4⟩ => ⟨p, c, n, L, e1, e2, e3.chg hr (fun k hk => HGK.out k (e3.block hk).1), e4⟩) | 13 => .of (relChg _) (fun W x => ∃ r : Rc, x = .agg (RC r).toArray ∧ OwnRc W (N + 2) r ∧ r.ses = (a : Int) ∧ r.snap = (b : Int) ∧ r.st = c ∧ (∀ ys z, s3.bind (pL 64 pR) = some (ys, z) → r.rs.map plR = ys) ∧ ∀ ys z, s4.bind (pL 64 pW) = some (ys, z) → r.ws = ys) (fun _ _ _ hr ⟨r, e1, e2, e3⟩ => ⟨r, e1, e2.chgB hr HGK.out, e3⟩) | _ => .free)) (fun b_ w_ => SrcAt w0 w_ Bb Br Bt (SB b_) ∧ Chg (GF Bb Br) w1 w_) [2, 5, 8, 10, 12] 17 rfl (by decide +kernel) 14 (by decide) (by decide) (by decide) (by decide +kernel) (by decide +kernel) (KC_mono _) (KC_monoR (fun i_ h_ => (by split <;> first | rfl | exact absurd rfl h_))) (fun b_ w_ w_2 hg h => ⟨h.1.kept hg, h.2.trans (Chg.of_below hg)⟩) (⟨by rw [HB0]; exact S0.out, Chg.refl _ _⟩) ?_ ?_
  · refine AllFrom.cons ⟨rfl, fun _ a' b' w' hC hk hd Q => ?_, fun j_ hj_ => (pvR_no (by decide) j_ hj_).elim⟩ (AllFrom.cons ⟨rfl, fun _ a' b' w' hC hk hd Q => ?_, fun j_ hj_ => (pvR_no (by decide) j_ hj_).elim⟩ (AllFrom.cons ⟨rfl, fun h => absurd (by decide) h, fun j_ hj_ a' w' hC hk hd Q => ?_⟩ (AllFrom.cons ⟨rfl, fun _ a' b' w' hC hk hd Q => ?_, fun j_ hj_ => (pvR_no (by decide) j_ hj_).elim⟩ (AllFrom.cons ⟨rfl, fun _ a' b' w' hC hk hd Q => ?_, fun j_ hj_ => (pvR_no (by decide) j_ hj_).elim⟩ (AllFrom.cons ⟨rfl, fun h => absurd (by decide) h, fun j_ hj_ a' w' hC hk hd Q => ?_⟩ (AllFrom.cons ⟨rfl, fun _ a' b' w' hC hk hd Q => ?_, fun j_ hj_ => (pvR_no (by decide) j_ hj_).elim⟩ (AllFrom.cons ⟨rfl, fun _ a' b' w' hC hk hd Q => ?_, fun j_ hj_ => (pvR_no (by decide) j_ hj_).elim⟩ (AllFrom.cons ⟨rfl, fun h => absurd (by decide) h, fun j_ hj_ a' w' hC hk hd Q => ?_⟩ (AllFrom.cons ⟨rfl, fun _ a' b' w' hC hk hd Q => ?_, fun j_ hj_ => (pvR_no (by decide) j_ hj_).elim⟩ (AllFrom.cons ⟨rfl, fun h => absurd (by decide) h, fun j_ hj_ a' w' hC hk hd Q => ?_⟩ (AllFrom.cons ⟨rfl, fun _ a' b' w' hC hk hd Q => ?_, fun j_ hj_ => (pvR_no (by decide) j_ hj_).elim⟩ (AllFrom.cons ⟨rfl, fun h => absurd (by decide) h, fun j_ hj_ a' w' hC hk hd Q => ?_⟩ (AllFrom.cons ⟨rfl, fun _ a' b' w' hC hk hd Q => ?_, fun j_ hj_ => (pvR_no (by decide) j_ hj_).elim⟩ AllFrom.nil)))))))))))))
    · skip
      have e1 : a'.eval (.tmp 1) = .pointer (some ⟨N, 0, none⟩) := hk.at 1 (by decide +kernel)
      clear hd hk
      exact wp_value (.pointer (some ⟨N, 0, none⟩)) (by simp only [execOp, e1]; go_simp) (KC_mkv rfl rfl)
    · skip
      have e3 : a'.eval (.tmp 3) = .pointer (some ⟨N, 0, none⟩) := KC_val (hd.val 0 3 (by decide +kernel)) rfl
      have hc := (BN.out.chg hC.2 HNE.out).cell (j := 0) rfl
      clear hd hk
      exact wp_value (.func (.func 47) #[] #[PT Bb, PT Bt]) (by simp only [execOp, e3]; go_simp) (KC_mkv rfl rfl)
    · skip
      obtain rfl : j_ = 0 := pvR_at (by decide) rfl hj_
      have e4 : a'.eval (.tmp 4) = .func (.func 47) #[] #[PT Bb, PT Bt] := KC_val (hd.val 1 4 (by decide +kernel)) rfl
      have hc0 := hC.1
      rw [HB0] at hc0
      refine wp_callP 47 _ (run_enterV 47 _ _ 4 _ rfl e4 (by kernel_rfl)) ?_
      simp only [List.map_toArray, List.map_cons, List.map_nil, List.append_toArray, List.cons_append, List.nil_append, Act.eval]
      refine (C1.out w' hc0).mono ?_
      rintro e w5 ⟨rfl, s5, c5⟩
      rw [← HB1] at s5
      exact ⟨_, rfl, KC_mkv rfl rfl, c5, s5, hC.2.trans c5⟩
    · skip
      have e1 : a'.eval (.tmp 1) = .pointer (some ⟨N, 0, none⟩) := hk.at 1 (by decide +kernel)
      clear hd hk
      exact wp_value (.pointer (some ⟨N, 0, none⟩)) (by simp only [execOp, e1]; go_simp) (KC_mkv rfl rfl)
    · skip
      have e6 : a'.eval (.tmp 6) = .pointer (some ⟨N, 0, none⟩) := KC_val (hd.val 3 6 (by decide +kernel)) rfl
      have hc := (BN.out.chg hC.2 HNE.out).cell (j := 0) rfl
      clear hd hk
      exact wp_value (.func (.func 47) #[] #[PT Bb, PT Bt]) (by simp only [execOp, e6]; go_simp) (KC_mkv rfl rfl)
    · skip
      obtain rfl : j_ = 1 := pvR_at (by decide) rfl hj_
      have e7 : a'.eval (.tmp 7) = .func (.func 47) #[] #[PT Bb, PT Bt] := KC_val (hd.val 4 7 (by decide +kernel)) rfl
      have hc0 := hC.1
      rw [HB1] at hc0
      refine wp_callP 47 _ (run_enterV 47 _ _ 7 _ rfl e7 (by kernel_rfl)) ?_
      simp only [List.map_toArray, List.map_cons, List.map_nil, List.append_toArray, List.cons_append, List.nil_append, Act.eval]
      refine (C2.out w' hc0).mono ?_
      rintro e w5 ⟨rfl, s5, c5⟩
      rw [← HB2] at s5
      exact ⟨_, rfl, KC_mkv rfl rfl, c5, s5, hC.2.trans c5⟩
    · skip
      have e1 : a'.eval (.tmp 1) = .pointer (some ⟨N, 0, none⟩) := hk.at 1 (by decide +kernel)
      clear hd hk
      exact wp_value (.pointer (some ⟨N, 1, none⟩)) (by simp only [execOp, e1]; go_simp) (KC_mkv rfl rfl)
    · skip
      have e9 : a'.eval (.tmp 9) = .pointer (some ⟨N, 1, none⟩) := KC_val (hd.val 6 9 (by decide +kernel)) rfl
      have hc := (BN.out.chg hC.2 HNE.out).cell (j := 1) rfl
      clear hd hk
      exact wp_value (.func (.func 49) #[] #[PT Bb, PT Bt]) (by simp only [execOp, e9]; go_simp) (KC_mkv rfl rfl)
    · skip
      obtain rfl : j_ = 2 := pvR_at (by decide) rfl hj_
      have e10 : a'.eval (.tmp 10) = .func (.func 49) #[] #[PT Bb, PT Bt] := KC_val (hd.val 7 10 (by decide +kernel)) rfl
      have hc0 := hC.1
      rw [HB2] at hc0
      refine wp_callP 49 _ (run_enterV 49 _ _ 10 _ rfl e10 (by kernel_rfl)) ?_
      simp only [List.map_toArray, List.map_cons, List.map_nil, List.append_toArray, List.cons_append, List.nil_append, Act.eval]
      refine (C3.out w' hc0).mono ?_
      rintro e w5 ⟨rfl, s5, c5⟩
      rw [← HB3] at s5
      exact ⟨_, rfl, KC_mkv rfl rfl, c5, s5, hC.2.trans c5⟩
    · skip
      have e1 : a'.eval (.tmp 1) = .pointer (some ⟨N, 0, none⟩) := hk.at 1 (by decide +kernel)
      exact wp_load_row 55 _ rfl _ _ e1 (SC6 Bb Br Bt) _ ((BN.out.chg hC.2 HNE.out).range0) Tryd.underlying55 rfl Tryd.size55 (KC_mkv rfl rfl)
    · skip
      obtain rfl : j_ = 3 := pvR_at (by decide) rfl hj_
      have e12 : a'.eval (.tmp 12) = .agg (SC6 Bb Br Bt).toArray := KC_val (hd.val 9 12 (by decide +kernel)) rfl
      have hc0 := hC.1
      rw [HB3] at hc0
      refine wp_callP 55 _ (run_enter 55 _ _ rfl (by kernel_rfl)) ?_
      simp only [List.map_toArray, List.map_cons, List.map_nil, e12]
      refine (C4.out w' hc0).mono ?_
      rintro e w5 ⟨v5, L5, rfl, o5, n5, s5, y5, c5⟩
      obtain ⟨p5, q5, h5⟩ := o5.row.form
      rw [Hs4.out, ← HB4] at s5
      exact ⟨v5, rfl, KC_mko rfl ⟨p5, q5, L5.length, L5, h5, rfl, o5.mono (by have h1 := hC.2.size; have h2 := HN1.out; omega), y5⟩, c5, s5, hC.2.trans c5⟩
    · skip
      have e1 : a'.eval (.tmp 1) = .pointer (some ⟨N, 0, none⟩) := hk.at 1 (by decide +kernel)
      exact wp_load_row 55 _ rfl _ _ e1 (SC6 Bb Br Bt) _ ((BN.out.chg hC.2 HNE.out).range0) Tryd.underlying55 rfl Tryd.size55 (KC_mkv rfl rfl)
    · skip
      obtain rfl : j_ = 4 := pvR_at (by decide) rfl hj_
      have e14 : a'.eval (.tmp 14) = .agg (SC6 Bb Br Bt).toArray := KC_val (hd.val 11 14 (by decide +kernel)) rfl
      have hc0 := hC.1
      rw [HB4] at hc0
      refine wp_callP 57 _ (run_enter 57 _ _ rfl (by kernel_rfl)) ?_
      simp only [List.map_toArray, List.map_cons, List.map_nil, e14]
      refine (C5.out w' hc0).mono ?_
      rintro e w5 ⟨v5, L5, rfl, o5, n5, s5, y5, c5⟩
      obtain ⟨p5, q5, h5⟩ := o5.form
      rw [Hs5.out, ← HB5] at s5
      exact ⟨v5, rfl, KC_mko rfl ⟨p5, q5, L5.length, L5, h5, rfl, o5.mono (by have h1 := hC.2.size; have h2 := HN1.out; omega), y5⟩, c5, s5, hC.2.trans c5⟩
    · skip
      have e5 : a'.eval (.tmp 5) = .int .i64 (a : Int) := KC_val (hd.val 2 5 (by decide +kernel)) rfl
      have e8 : a'.eval (.tmp 8) = .int .i64 (b : Int) := KC_val (hd.val 5 8 (by decide +kernel)) rfl
      have e11 : a'.eval (.tmp 11) = .bool c := KC_val (hd.val 8 11 (by decide +kernel)) rfl
      have r13 := KC_of (hd.val 10 13 (by decide +kernel)) rfl
      have r15 := KC_of (hd.val 12 15 (by decide +kernel)) rfl
      obtain ⟨p3, c3, n3, L3, f3, g3, o3, y3⟩ := r13
      obtain ⟨p4, c4, n4, L4, f4, g4, o4, y4⟩ := r15
      rw [f3] at o3
      rw [f4] at o4
      subst g3 g4
      clear hd hk
      exact wp_value (.agg (RC (⟨(a : Int), (b : Int), c, L3, L4, p3, c3, p4, c4⟩ : Rc)).toArray) (by simp only [execOp, List.map_toArray, List.map_cons, List.map_nil, e5, e8, e11, f3, f4, Sem.run_bind, Sem.run_pure]; exact congrArg (fun r => Result.andThen r _) (build_rec5 _ _ _ _ _ _ _ _ _ _)) (KC_mko rfl ⟨⟨(a : Int), (b : Int), c, L3, L4, p3, c3, p4, c4⟩, rfl, ⟨o3, o4⟩, rfl, rfl, rfl, y3, y4⟩)
  · intro a' w2 hsz hdf hk hall hC
    have S2 := hide hC.1
    have L2 := hide hC.2
    clear hC
    have e3 : a'.eval (.tmp 3) = .pointer (some ⟨N, 0, none⟩) := KC_val (hall 0 _ 3 (by decide) rfl rfl) rfl
    have e4 : a'.eval (.tmp 4) = .func (.func 47) #[] #[PT Bb, PT Bt] := KC_val (hall 1 _ 4 (by decide) rfl rfl) rfl
    have e5 : a'.eval (.tmp 5) = .int .i64 (a : Int) := KC_val (hall 2 _ 5 (by decide) rfl rfl) rfl
    have e6 : a'.eval (.tmp 6) = .pointer (some ⟨N, 0, none⟩) := KC_val (hall 3 _ 6 (by decide) rfl rfl) rfl
    have e7 : a'.eval (.tmp 7) = .func (.func 47) #[] #[PT Bb, PT Bt] := KC_val (hall 4 _ 7 (by decide) rfl rfl) rfl
    have e8 : a'.eval (.tmp 8) = .int .i64 (b : Int) := KC_val (hall 5 _ 8 (by decide) rfl rfl) rfl
    have e9 : a'.eval (.tmp 9) = .pointer (some ⟨N, 1, none⟩) := KC_val (hall 6 _ 9 (by decide) rfl rfl) rfl
    have e10 : a'.eval (.tmp 10) = .func (.func 49) #[] #[PT Bb, PT Bt] := KC_val (hall 7 _ 10 (by decide) rfl rfl) rfl
    have e11 : a'.eval (.tmp 11) = .bool c := KC_val (hall 8 _ 11 (by decide) rfl rfl) rfl
    have e12 : a'.eval (.tmp 12) = .agg (SC6 Bb Br Bt).toArray := KC_val (hall 9 _ 12 (by decide) rfl rfl) rfl
    have r13 := KC_of (hall 10 _ 13 (by decide) rfl rfl) rfl
    obtain ⟨x13, hx13⟩ : ∃ v, a'.eval (.tmp 13) = v := ⟨_, rfl⟩
    rw [hx13] at r13
    have e14 : a'.eval (.tmp 14) = .agg (SC6 Bb Br Bt).toArray := KC_val (hall 11 _ 14 (by decide) rfl rfl) rfl
    have r15 := KC_of (hall 12 _ 15 (by decide) rfl rfl) rfl
    obtain ⟨x15, hx15⟩ : ∃ v, a'.eval (.tmp 15) = v := ⟨_, rfl⟩
    rw [hx15] at r15
    have r16 := KC_of (hall 13 _ 16 (by decide) rfl rfl) rfl
    obtain ⟨x16, hx16⟩ : ∃ v, a'.eval (.tmp 16) = v := ⟨_, rfl⟩
    rw [hx16] at r16
    have ha := act_puts 17 rfl hsz hdf hk [3, 4, 5, 6, 7, 8, 9, 10, 11, 12, 13, 14, 15, 16] (by decide +kernel)
    simp only [puts, List.foldl_cons, List.foldl_nil, e3, e4, e5, e6, e7, e8, e9, e10, e11, e12, hx13, e14, hx15, hx16] at ha
    simp only [Act.put, List.setIfInBounds_toArray, List.set_cons_succ, List.set_cons_zero] at ha
    clear hall hk hsz hdf e3 e4 e5 e6 e7 e8 e9 e10 e11 e12 hx13 e14 hx15 hx16
    subst ha
    obtain ⟨r, e16, o16, ha16, hb16, hc16, hr16, hw16⟩ := r16
    subst e16
    have O16 := hide o16
    refine wpSeq_store_blk rfl 25 _ _ rfl (N + 1) _ (RC r) 25 rfl rfl (BZ.out.chg L2.out HNZ.out) rfl Tryd.size25 (RC_one r) ?_
    intro w3 hb3 hu3
    have C9 : Hid (Chg (fun j => j = N + 1) w2 w3) := (show Chg _ _ _ from Chg.of_but hu3 rfl)
    have hz2 := hide (BZ.out.chg L2.out HNZ.out)
    have S2' : Hid (SrcAt w0 w2 Bb Br Bt s5) := (show SrcAt _ _ _ _ _ _ from by
      have h1 := S2.out
      rwa [show ([2, 5, 8, 10, 12] : List Nat).length = 5 from rfl, HB5] at h1)
    have S3 : Hid (SrcAt w0 w3 Bb Br Bt s5) := (show SrcAt _ _ _ _ _ _ from S2'.out.other C9.out hz2.out (by decide) (by decide) (by decide) (by have := S0.out.base.size; have := l1.out.size; have := HN.out; have := h0s.out; omega))
    simp only [wpSeq]
    go_wp2_with fail
    refine bodyPost_ret (ret_rec rfl _ _ (N + 1) r rfl hb3) rfl (show RePost _ _ _ _ _ _ _ _ from ⟨r, rfl, ?_, ?_, ?_, ?_, ?_, ?_⟩)
    · rw [HN.out]
      exact (O16.out.chg hz2.out C9.out).mono (by omega)
    · rw [HPP.out.1]
      exact S3.out
    · intro d z hy
      obtain ⟨rs, ws, z1, z2, g1, g2, g3⟩ := HPP.out.2 d z hy
      rw [g3]
      unfold pdR
      rw [ha16, hb16, hc16, hr16 rs z1 g1, hw16 ws z2 g2, Int.toNat_natCast, Int.toNat_natCast]
    · rw [ha16]
      omega
    · rw [hb16]
      omega
    · exact ((Chg.of_below l1.out).trans L2.out).then C9.out (fun i hi e => absurd hi (by have := HN.out; omega))
#print axioms srecord_any
theorem ret_src {fn : Func} {p : Tmp} (h : fn.results = #[.cell p 55]) (tmps : Array Value) (w : World) (g : Nat) (cs : List Value) (hc : cs.length = 5) (hp : tmps.getD p undef = .pointer (some ⟨g, 0, none⟩)) (hB : Blk w g 55 cs) :
    (results fn tmps).run Tryd.prog w = .ok (.agg cs.toArray) w :=
  results_cell_row h _ _ g 55 _ (0, 0) _ hp hB Tryd.underlying55 rfl (by rw [List.size_toArray, hc]; exact Tryd.size55)
theorem sztk : ∀ W : World, (sizeOf 72).run Tryd.prog W = .ok 1 W := fun W => by kernel_rfl
theorem wpList_store_fn {P : Program} {ops : Array Oper} {rest : List Oper} {o : Oper} {a : Act} {w : World} {Q : Exit → Act → World → Prop} (hgd : o.guard = none) (ty : TypeId) (hso : ∀ W, (sizeOf ty).run P W = .ok 1 W) (x y : Operand) (ho : o.op = .store ty x y) (b j : Nat) (T : TypeId) (cs : List Value) (f : Fn) (cp : Array Value)
    (hx : a.eval x = .pointer (some ⟨b, j, none⟩)) (hy : a.eval y = .func f #[] cp) (hB : Blk w b T cs) (hj : j < cs.length) (h : ∀ w', Blk w' b T (cs.set j (.func f #[] cp)) → But b w w' → wpList P ops Q rest (a.put o.dst undef) w') : wpList P ops Q (o :: rest) a w := by
  have hc := hB.cell (j := j) (v := cs[j]) (List.getElem?_eq_getElem hj)
  have hf := hB.frozen j
  have hrun : (execOp a.eval o).run P w = .ok .skip (w.setCell ⟨b, j, none⟩ (.func f #[] cp)) := by
    have hst : (store ⟨b, j, none⟩ (.func f #[] cp) .plain).run P w = stored P w ⟨b, j, none⟩ (.func f #[] cp) .plain := run_store P w _ _ _ rfl
    simp only [execOp, ho, hx, hy]
    go_simp
  refine wpList_plain hgd fun K hK => ?_
  unfold Oper.wp
  rw [hrun]
  exact hK _ _ (h _ (hB.set j (.func f #[] cp)) (But.setCell b w j _))
set_option maxHeartbeats 1000000 in
set_option maxRecDepth 100000 in
theorem sourceOf_any {w : World} {v : Value} {l : List UInt8} (hr : Rd w v l) (hl : l.length ≤ 8192) :
    Calls Tryd.prog 31 #[v] w fun e w' => ∃ Bb Br Bt, e = .returned (.agg (SC6 Bb Br Bt).toArray) ∧ SrcAt w w' Bb Br Bt (some l) ∧ Below w.heap.size w w' := by
  obtain ⟨a, cap, rfl⟩ := hr.slice
  obtain ⟨N, HN⟩ : ∃ N, Hid (w.heap.size = N) := ⟨_, rfl⟩
  obtain ⟨n, Hn⟩ : ∃ z, Hid (l.length = z) := ⟨_, rfl⟩
  have HR := hide hr
  rw [Hn.out] at HR ⊢
  have mf := mk_fn
  obtain ⟨w2, hw2⟩ : ∃ z, z = (w.alloc (.cells #[.slice a n cap] 28 (0, 0))).alloc (.cells #[.nilFunc, .nilFunc, .nilFunc, .nilFunc, .nilFunc] 55 (0, 0)) := ⟨_, rfl⟩
  obtain ⟨b1, b2, l2⟩ := newB2 (A := [.slice a n cap]) (B := [.nilFunc, .nilFunc, .nilFunc, .nilFunc, .nilFunc]) HN hw2
  have HN2 : Hid (w2.heap.size = N + 2) := (show _ = _ by rw [hw2]; simp [HN.out])
  obtain ⟨w3, hw3⟩ : ∃ z, z = w2.alloc (.cells #[.bool true] 4 (0, 0)) := ⟨_, rfl⟩
  obtain ⟨b3, l3⟩ := newB (A := [.bool true]) HN2 hw3
  have HN3 : Hid (w3.heap.size = N + 3) := (show _ = _ by rw [hw3]; simp [HN2.out])
  obtain ⟨w4, hw4⟩ : ∃ z, z = w3.alloc (.cells #[.nilFunc] 72 (0, 0)) := ⟨_, rfl⟩
  obtain ⟨b4, l4⟩ := newB (A := [.nilFunc]) HN3 hw4
  have HW2 := hide hw2
  have HW3 := hide hw3
  have HW4 := hide hw4
  have L4 : Hid (Below w.heap.size w w4) := (show Below _ _ _ from (l2.out.trans (l3.out.mono l2.out.size)).trans (l4.out.mono (by rw [HN.out, HN3.out]; omega)))
  have A1 : Hid (Blk w4 N 28 [.slice a n cap]) := (show Blk _ _ _ _ from (b1.out.kept l3.out).kept l4.out)
  have A2 : Hid (Blk w4 (N + 1) 55 [.nilFunc, .nilFunc, .nilFunc, .nilFunc, .nilFunc]) := (show Blk _ _ _ _ from (b2.out.kept l3.out).kept l4.out)
  have A3 : Hid (Blk w4 (N + 2) 4 [.bool true]) := (show Blk _ _ _ _ from b3.out.kept l4.out)
  clear hr hw2 hw3 hw4
  go_enter Tryd.func31, Tryd.ntmps31
  go_upto_region 1 with fail
  change Code.wp _ _ _ _ ((w.alloc (.cells #[.slice a n cap] 28 (0, 0))).alloc (.cells #[.nilFunc, .nilFunc, .nilFunc, .nilFunc, .nilFunc] 55 (0, 0)))
  rw [← HW2.out, HN.out]
  go_upto_region 2 with fail
  change Code.wp _ _ _ _ (w2.alloc (.cells #[.bool true] 4 (0, 0)))
  rw [← HW3.out, HN2.out]
  go_upto_region 3 with (first
    | (refine wpList_store_fn rfl 72 sztk _ _ rfl (N + 3) 0 72 [.nilFunc] _ _ (show _ = _ by rw [← HN3.out]; rfl) rfl (show Blk (w3.alloc (.cells #[.nilFunc] 72 (0, 0))) _ _ _ by rw [← HW4.out]; exact b4.out) (by simp) ?_; intro w5 hb5 hu5; rw [← HW4.out] at hu5)
    | fail)
  try simp only [Act.put]
  rw [HN3.out]
  have B5 : Hid (Blk w5 (N + 3) 72 [tookV N (N + 2)]) := (show Blk _ _ _ _ from hb5)
  have C5 : Hid (Chg (fun j => j = N + 3) w4 w5) := (show Chg _ _ _ from Chg.of_but hu5 rfl)
  have A25 := hide (A2.out.chg C5.out (by omega))
  clear hb5 hu5
  go_wp2_with (first
    | (refine wpList_store_blk rfl 55 (.tmp 2) (.tmp 11) rfl (N + 1) _ (SC6 N (N + 2) (N + 3)) 55 rfl rfl A25.out rfl Tryd.size55 (SC6_one _ _ _) ?_; intro w6 hb6 hu6)
    | fail)
  have C6 : Hid (Chg (fun j => j = N + 1) w5 w6) := (show Chg _ _ _ from Chg.of_but hu6 rfl)
  have L6 : Hid (Below w.heap.size w w6) := (show Below _ _ _ from (L4.out.trans (C5.out.below L4.out.size (fun k hk e => by have := HN.out; omega))).trans (C6.out.below (by have := L4.out.size; have := C5.out.size; omega) (fun k hk e => by have := HN.out; omega)))
  refine bodyPost_ret (ret_src rfl _ _ (N + 1) (SC6 N (N + 2) (N + 3)) rfl rfl hb6) rfl ⟨N, N + 2, N + 3, rfl, ⟨L6.out, ⟨by rw [HN.out]; omega, by rw [HN.out]; omega, by rw [HN.out]; omega⟩, ⟨.slice a n cap, l, ?_, HR.out, hl, fun z e => Option.some.inj e⟩, ?_, ?_⟩, L6.out⟩
  · exact (A1.out.chg C5.out (by omega)).chg C6.out (by omega)
  · exact (A3.out.chg C5.out (by omega)).chg C6.out (by omega)
  · exact B5.out.chg C6.out (by omega)
#print axioms sourceOf_any
end Go.Proofs.YtmicmbjbclkbjaaDoor
