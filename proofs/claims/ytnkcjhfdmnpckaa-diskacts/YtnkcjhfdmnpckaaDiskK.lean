/-
  (*disk.Disk).Read, Copy: what the calls do.
-/
import Derived.Test.YtnkcjhfdmnpckaaDiskQ
namespace Go.Proofs.Ytnkcjhfdmnpckaa
open Go.RowKit
open Pd (spl spl_length spl_get clip clip_le DM)
section
variable {w : World} {c : Nat → Nat} {i D n : Nat} {m : DM}
set_option maxHeartbeats 1000000 in
set_option maxRecDepth 100000 in
theorem read_off {S M cap : Nat} {vo vk : Value} {ops torn : Int} (hB : Blk w D 56 (DB false S n cap M vo ops vk torn)) (hn : 0 < n) (p k : Int) : Calls Try.prog 18 #[.pointer (some ⟨D, 0, none⟩), .int .i64 p, .int .i64 k] w fun e w' => e = .returned (.tuple #[.slice none 0 0, .int .i64 7]) ∧ w' = w := by
  have HB : Hid (Blk w D 56 (DB false S n cap M vo ops vk torn)) := hB
  clear hB
  go_enter Try.func18, Try.ntmps18
  go_wp2_with fail
  refine (ready_any HB.out hn).mono ?_
  rintro e w1 ⟨rfl, hw⟩; subst hw
  simp only [Bool.false_eq_true, if_false]
  go_wp2
  go_ret2
  exact ⟨rfl, rfl⟩
set_option maxHeartbeats 1000000 in
set_option maxRecDepth 100000 in
theorem read_neg {S M cap : Nat} {vo vk : Value} {ops torn : Int} (hB : Blk w D 56 (DB true S n cap M vo ops vk torn)) (hn : 0 < n) (p k : Int) (h : p < 0 ∨ k < 0) : Calls Try.prog 18 #[.pointer (some ⟨D, 0, none⟩), .int .i64 p, .int .i64 k] w fun e w' => e = .returned (.tuple #[.slice none 0 0, .int .i64 2]) ∧ w' = w := by
  have HB : Hid (Blk w D 56 (DB true S n cap M vo ops vk torn)) := hB
  clear hB
  go_enter Try.func18, Try.ntmps18
  go_wp2_with fail
  refine (ready_any HB.out hn).mono ?_
  rintro e w1 ⟨rfl, hw⟩; subst hw
  simp only [if_true]
  by_cases h1 : p < 0
  · have q1 : decide (p < 0) = true := by simpa using h1
    go_wp2
    go_ret2
    exact ⟨rfl, rfl⟩
  · have h2 : k < 0 := by omega
    have q1 : decide (p < 0) = false := by simpa using h1
    have q2 : decide (k < 0) = true := by simpa using h2
    go_wp2
    go_ret2
    exact ⟨rfl, rfl⟩
set_option maxHeartbeats 1000000 in
set_option maxRecDepth 100000 in
theorem read_full {S M cap : Nat} {vo vk : Value} {ops torn : Int} (hB : Blk w D 56 (DB true S n cap M vo ops vk torn)) (hn : 0 < n) (hm : n ≤ 4096) (p k : Int) (hp : 0 ≤ p) (hk : 0 ≤ k) (hp2 : p < 9223372036854775808) (hf : ((32 * n : Nat) : Int) - p < k) : Calls Try.prog 18 #[.pointer (some ⟨D, 0, none⟩), .int .i64 p, .int .i64 k] w fun e w' => e = .returned (.tuple #[.slice none 0 0, .int .i64 2]) ∧ w' = w := by
  have HB : Hid (Blk w D 56 (DB true S n cap M vo ops vk torn)) := hB
  have HE : Hid (decide (k ≤ ((32 * n : Nat) : Int) - p) = false) := (show _ = _ by simp; omega)
  have HC : Hid _ := ends_any hB hn hm p k hp hp2
  have q1 : decide (p < 0) = false := by simpa using hp
  have q2 : decide (k < 0) = false := by simpa using hk
  clear hB hf hp hk hp2
  go_enter Try.func18, Try.ntmps18
  go_wp2_with fail
  refine (ready_any HB.out hn).mono ?_
  rintro e w1 ⟨rfl, hw⟩; subst hw
  simp only [if_true]
  go_wp2_with fail
  refine Calls.mono HC.out ?_
  rintro e w2 ⟨rfl, hw⟩; subst hw
  rw [HE.out]
  go_wp2
  go_ret2
  exact ⟨rfl, rfl⟩
theorem dRead_any (h : IsD w c i D n m) (p k : Int) (hpw : (Lit.int .i64 p).wf = true) :
    Calls Try.prog 18 #[.pointer (some ⟨D, 0, none⟩), .int .i64 p, .int .i64 k] w fun e w' => ∃ v, e = .returned (.tuple #[v, .int .i64 ((Pd.read m p k).2 : Int)]) ∧ Rd w' v (Pd.read m p k).1 ∧ (∀ x, InB v x → w.heap.size ≤ x) ∧ Below w.heap.size w w' := by
  obtain ⟨S, M, cap, N, vo, vk, s, hA, hW, hR, -⟩ := h
  have bd := bounds_i64 hpw
  have hon := hR.on
  have hnow := hR.ok.now
  have hpos := hA.pos
  have hmax := hA.max
  have hd := hA.d
  cases ho : m.off with
  | true =>
    rw [ho] at hon
    have e1 : Pd.read m p k = ([], 7) := by unfold Pd.read; rw [ho]; rfl
    rw [e1]
    rw [hon] at hd
    refine (read_off hd hpos p k).mono ?_
    rintro e w' ⟨rfl, rfl⟩
    exact ⟨_, rfl, Rd_nil _, fun x hx => absurd hx (InB_nil x), Below.refl _ _⟩
  | false =>
    rw [ho] at hon
    rw [hon] at hd
    by_cases h1 : p < 0 ∨ k < 0
    · have e1 : Pd.read m p k = ([], 2) := by unfold Pd.read; rw [ho, if_neg (by simp), if_pos (by omega)]
      rw [e1]
      refine (read_neg hd hpos p k h1).mono ?_
      rintro e w' ⟨rfl, rfl⟩
      exact ⟨_, rfl, Rd_nil _, fun x hx => absurd hx (InB_nil x), Below.refl _ _⟩
    · by_cases h2 : (m.now.length : Int) < p ∨ (m.now.length : Int) - p < k
      · have e1 : Pd.read m p k = ([], 2) := by unfold Pd.read; rw [ho, if_neg (by simp), if_pos (by omega)]
        rw [e1]
        refine (read_full hd hpos hmax p k (by omega) (by omega) (by omega) (by omega)).mono ?_
        rintro e w' ⟨rfl, rfl⟩
        exact ⟨_, rfl, Rd_nil _, fun x hx => absurd hx (InB_nil x), Below.refl _ _⟩
      · have e1 : Pd.read m p k = ((m.now.drop p.toNat).take k.toNat, 0) := by unfold Pd.read; rw [ho, if_neg (by simp), if_neg (by omega)]
        rw [e1]
        have := read_go hA hW hR ho p.toNat k.toNat (by omega)
        rw [show ((p.toNat : Nat) : Int) = p by omega, show ((k.toNat : Nat) : Int) = k by omega] at this
        exact this
theorem Try.size56 : (Try.prog.info? 56).map (·.size) = some 7 := by kernel_rfl
/-- What a copy is made of. -/
theorem Z56 : ∀ W : World, (zeroValue 56).run Try.prog W = .ok (.agg #[.bool false, .slice none 0 0, .map none, .slice none 0 0, .int .i64 0, .slice none 0 0, .int .i64 0]) W := fun W => by kernel_rfl
set_option maxHeartbeats 2000000 in
set_option maxRecDepth 100000 in
theorem copy_go {S M cap N : Nat} {vo vk : Value} {s : St} (hA : At w D S M n cap N vo vk s) (hW : Wf n N s) :
    Calls Try.prog 20 #[.pointer (some ⟨D, 0, none⟩)] w fun e w' => ∃ D' S' M' cap' vo', e = .returned (.pointer (some ⟨D', 0, none⟩)) ∧ At w' D' S' M' n cap' N vo' vk s ∧ w.heap.size ≤ D' ∧ w.heap.size ≤ S' ∧ w.heap.size ≤ M' ∧ (∀ x, vo'.ownBlock = some x → w.heap.size ≤ x) ∧ Below w.heap.size w w' := by
  have HA : Hid (At w D S M n cap N vo vk s) := hA
  have HW : Hid (Wf n N s) := hW
  have hp := hA.pos
  have hn := hA.max
  obtain ⟨a, cp, e1, -⟩ := hA.od.rd
  obtain ⟨ak, ck, e2, -⟩ := hA.kp
  have r0 := hA.d.range0
  have HC0 : Hid (∀ u ∈ DB s.on S n cap M vo s.ops vk s.torn, u.oneCell' = true) := (show ∀ u ∈ _, _ by
    intro u hu
    simp only [DB, List.mem_cons, List.not_mem_nil, or_false] at hu
    rcases hu with rfl | rfl | rfl | rfl | rfl | rfl | rfl <;> first | rfl | (rw [e1]; rfl) | (rw [e2]; rfl))
  have hl : (Nats s.order).length ≤ 1000000 := by rw [Nats_length]; have := (hW.small hn).2; omega
  clear hA hW e1 e2
  obtain ⟨DC, HDC⟩ : ∃ DC, Hid (DB s.on S n cap M vo s.ops vk s.torn = DC) := ⟨_, rfl⟩
  rw [HDC.out] at r0 HC0
  have hdl : DC.length = 7 := by rw [← HDC.out]; rfl
  have hz := Z56
  go_enter Try.func20, Try.ntmps20
  go_wp2_with fail
  refine (isMade_any HA.out.d hp).mono ?_
  rintro e w0 ⟨rfl, hw⟩; subst hw
  go_upto_region 4 with (first
    | (refine wpList_load_mid rfl 56 _ rfl D 0 rfl DC _ r0 Try.underlying56 rfl (by rw [hdl]; exact Try.size56) ?_)
    | (refine wpList_store_new rfl 56 _ _ rfl w0 _ _ _ rfl rfl rfl (by simpa [hdl] using Try.size56) (by simp [hdl]) (all_one HC0.out) ?_)
    | fail)
  obtain ⟨G, HG⟩ : ∃ G, Hid (w0.heap.size = G) := ⟨_, rfl⟩
  rw [HG.out]
  obtain ⟨w1, hw1⟩ : ∃ x, x = w0.alloc (.cells DC.toArray 56 (0, 0)) := ⟨_, rfl⟩
  rw [← hw1]
  have L1 : Hid (Below w0.heap.size w0 w1) := (show Below _ _ _ by rw [hw1]; exact (Below.refl _ _).alloc (Nat.le_refl _) _)
  have A1 : Hid (At w1 D S M n cap N vo vk s) := HA.out.kept L1.out
  have G1 : Hid (Blk w1 G 56 (DB s.on S n cap M vo s.ops vk s.torn)) := (show Blk _ _ _ _ by rw [hw1, ← HG.out, HDC.out]; exact Blk.new w0 56 DC)
  have c1 := A1.out.d.cell (j := 1) rfl
  clear hw1 r0
  go_upto_region 5 with (first
    | (go_at_call 40; refine (cloneS_any A1.out.sf hn hp).mono ?_; rintro e w2 ⟨S', cap', rfl, hS', hSn, hb2⟩; have HS' : Hid _ := hS'; have HSn : Hid _ := hSn; have HB2 : Hid (Below w1.heap.size w1 w2) := hb2; have g2 := (G1.out.kept hb2).cell (j := 1) rfl; have z2 := (G1.out.kept hb2).frozen 1; clear hS' hSn hb2)
    | fail)
  obtain ⟨w3, hw3⟩ : ∃ x, x = w2.setCell ⟨G, 1, none⟩ (.slice (some ⟨S', 0, none⟩) n cap') := ⟨_, rfl⟩
  rw [← hw3]
  have HGlt : Hid (G < w1.heap.size) := G1.out.lt
  have U3 : Hid (Chg (fun k => k = G) w2 w3) := (show Chg _ _ _ by rw [hw3]; exact Chg.cellD _ _ _ _)
  have HGD : Hid (∀ x, x < w0.heap.size → ¬ x = G) := fun x hx e => by have := HG.out; omega
  have keptG : ∀ {W W' : World}, At W D S M n cap N vo vk s → Chg (fun k => k = G) W W' → At W' D S M n cap N vo vk s := fun h hc => h.chg hc (HGD.out D HA.out.d.lt) (HGD.out S HA.out.sf.lt) (HGD.out M HA.out.mp.lt) (fun x hx => HGD.out x (own_lt HA.out.od hx)) (fun x hx => HGD.out x (HA.out.kp.inB_lt hx))
  have KG : Hid (∀ {W W' : World}, At W D S M n cap N vo vk s → Chg (fun k => k = G) W W' → At W' D S M n cap N vo vk s) := keptG
  have A3 : Hid (At w3 D S M n cap N vo vk s) := keptG (A1.out.kept HB2.out) U3.out
  have G3 : Hid (Blk w3 G 56 (DB s.on S' n cap' M vo s.ops vk s.torn)) := (show Blk _ _ _ _ by
    have := (G1.out.kept HB2.out).set 1 (.slice (some ⟨S', 0, none⟩) n cap')
    rw [hw3]; exact this)
  have HS3 : Hid (OwnS w3 S' n cap' s.safe) := OwnS.chg (w := w2) HS'.out U3.out (fun e => by
    have h1 := HSn.out
    have h2 := HGlt.out
    rw [e] at h1
    omega)
  have L3 : Hid (Below w0.heap.size w0 w3) := (L1.out.trans (HB2.out.mono L1.out.size)).trans (U3.out.below (by have := L1.out.size; have := HB2.out.size; omega) (fun k hk => HGD.out k hk))
  have HSn0 : Hid (w0.heap.size ≤ S' ∧ S' ≠ G) := (show _ from ⟨Nat.le_trans L1.out.size HSn.out, fun e => by have h1 := HSn.out; have h2 := HGlt.out; rw [e] at h1; omega⟩)
  have c2 := A3.out.d.cell (j := 2) rfl
  clear hw3 keptG c1 g2 z2 HS' HSn HB2 U3 A1 G1 L1
  go_upto_region 6 with (first
    | (go_at_call 41; refine (cloneM_any A3.out.mp).mono ?_; rintro e w4 ⟨rfl, hM4, hb4⟩; have HM4 : Hid _ := hM4; have HB4 : Hid (Below w3.heap.size w3 w4) := hb4; have g2 := (G3.out.kept hb4).cell (j := 2) rfl; have z2 := (G3.out.kept hb4).frozen 2; clear hM4 hb4)
    | fail)
  obtain ⟨M', HM'⟩ : ∃ M', Hid (w3.heap.size = M') := ⟨_, rfl⟩
  rw [HM'.out] at HM4 ⊢
  obtain ⟨w5, hw5⟩ : ∃ x, x = w4.setCell ⟨G, 2, none⟩ (.map (some M')) := ⟨_, rfl⟩
  rw [← hw5]
  have U5 : Hid (Chg (fun k => k = G) w4 w5) := (show Chg _ _ _ by rw [hw5]; exact Chg.cellD _ _ _ _)
  have A5 : Hid (At w5 D S M n cap N vo vk s) := KG.out (A3.out.kept HB4.out) U5.out
  have G5 : Hid (Blk w5 G 56 (DB s.on S' n cap' M' vo s.ops vk s.torn)) := (show Blk _ _ _ _ by
    have := (G3.out.kept HB4.out).set 2 (.map (some M'))
    rw [hw5]; exact this)
  have HS5 : Hid (OwnS w5 S' n cap' s.safe) := (HS3.out.chg (F := fun _ => False) (Chg.of_below HB4.out) id).chg U5.out HSn0.out.2
  have HM5 : Hid (MapS w5 M' s.f N) := MapS.chg (w := w4) HM4.out U5.out (fun e => by have h1 := HM'.out; have h2 := G3.out.lt; rw [e] at h1; omega)
  have L5 : Hid (Below w0.heap.size w0 w5) := (L3.out.trans (HB4.out.mono L3.out.size)).trans (U5.out.below (by have := L3.out.size; have := HB4.out.size; omega) (fun k hk => HGD.out k hk))
  have HMn0 : Hid (w0.heap.size ≤ M' ∧ M' ≠ G) := (show _ from ⟨by have h1 := HM'.out; have h2 := L3.out.size; omega, fun e => by have h1 := HM'.out; have h2 := G3.out.lt; rw [e] at h1; omega⟩)
  have c3 := A5.out.d.cell (j := 3) rfl
  clear hw5 c2 g2 z2 HM4 HB4 U5 A3 G3 L3 HS3 HM'
  go_upto_region 7 with (first
    | (go_at_call 38; refine (cloneI_any A5.out.od.rd hl).mono ?_; rintro e w6 ⟨vo', rfl, ho6, hn6, hb6⟩; have HO6 : Hid (OwnN w6 vo' (Nats s.order)) := ho6; have HN6 : Hid (∀ b, vo'.ownBlock = some b → w5.heap.size ≤ b) := hn6; have HB6 : Hid (Below w5.heap.size w5 w6) := hb6; have g2 := (G5.out.kept hb6).cell (j := 3) rfl; have z2 := (G5.out.kept hb6).frozen 3; obtain ⟨ao, co, hvo, -⟩ := ho6.rd; clear ho6 hn6 hb6; subst hvo)
    | fail)
  obtain ⟨w7, hw7⟩ : ∃ x, x = w6.setCell ⟨G, 3, none⟩ (.slice ao (Nats s.order).length co) := ⟨_, rfl⟩
  rw [← hw7]
  have U7 : Hid (Chg (fun k => k = G) w6 w7) := (show Chg _ _ _ by rw [hw7]; exact Chg.cellD _ _ _ _)
  have A7 : Hid (At w7 D S M n cap N vo vk s) := KG.out (A5.out.kept HB6.out) U7.out
  have G7 : Hid (Blk w7 G 56 (DB s.on S' n cap' M' (.slice ao (Nats s.order).length co) s.ops vk s.torn)) := (show Blk _ _ _ _ by
    have := (G5.out.kept HB6.out).set 3 (.slice ao (Nats s.order).length co)
    rw [hw7]; exact this)
  have HS7 : Hid (OwnS w7 S' n cap' s.safe) := (HS5.out.chg (F := fun _ => False) (Chg.of_below HB6.out) id).chg U7.out HSn0.out.2
  have HM7 : Hid (MapS w7 M' s.f N) := (HM5.out.chg (F := fun _ => False) (Chg.of_below HB6.out) id).chg U7.out HMn0.out.2
  have HO7 : Hid (OwnN w7 (.slice ao (Nats s.order).length co) (Nats s.order)) := OwnN.chg (w := w6) HO6.out U7.out (fun x hx e => by
    have h1 := HN6.out x hx
    have h2 := G5.out.lt
    omega)
  have L7 : Hid (Below w0.heap.size w0 w7) := (L5.out.trans (HB6.out.mono L5.out.size)).trans (U7.out.below (by have := L5.out.size; have := HB6.out.size; omega) (fun k hk => HGD.out k hk))
  have HNN : Hid (∀ x, (Value.slice ao (Nats s.order).length co).ownBlock = some x → w0.heap.size ≤ x) := fun x hx => Nat.le_trans L5.out.size (HN6.out x hx)
  have KP7 : Hid (RdN w7 vk s.keep) := A7.out.kp
  clear hw7 c3 g2 z2 HB6 U7 A5 G5 L5 HS5 HM5 HO6 HN6
  go_wp2
  go_ret
  exact ⟨G, S', M', cap', .slice ao (Nats s.order).length co, rfl, ⟨G7.out, HS7.out, HM7.out, HO7.out, KP7.out, A7.out.kw, hp, hn⟩, by have := HG.out; omega, HSn0.out.1, HMn0.out.1, HNN.out, L7.out⟩
/-- A copy, of colour j. -/
theorem dCopy_any (h : IsD w c i D n m) (j : Nat) (hj : j ≠ 0) : Calls Try.prog 20 #[.pointer (some ⟨D, 0, none⟩)] w fun e w' => ∃ D', e = .returned (.pointer (some ⟨D', 0, none⟩)) ∧ w.heap.size ≤ D' ∧ ∃ c', IsD w' c' j D' n m ∧ IsD w' c' i D n m ∧ Step c j w c' w' ∧ Below w.heap.size w w' := by
  have hI := h
  obtain ⟨S, M, cap, N, vo, vk, s, hA, hW, hR, h1, h2, h3, h4, h5, h6⟩ := h
  refine (copy_go hA hW).mono ?_
  rintro e w' ⟨D', S', M', cap', vo', rfl, hA', l1, l2, l3, l4, hb⟩
  have hst : Step c j w (paint c w w' j) w' := Step.of_paint (Chg.of_below hb)
  refine ⟨D', rfl, l1, paint c w w' j, ⟨S', M', cap', N, vo', vk, s, hA', hW, hR, paint_new l1 hA'.d.lt, paint_new l2 hA'.sf.lt, paint_new l3 hA'.mp.lt, fun x hx => paint_new (l4 x hx) (own_lt hA'.od hx), fun x hx => (paint_old (hA.kp.inB_lt hx)).trans (h5 x hx), hj⟩, hI.kept hb hst.ext, hst, hb⟩
end
end Go.Proofs.Ytnkcjhfdmnpckaa
