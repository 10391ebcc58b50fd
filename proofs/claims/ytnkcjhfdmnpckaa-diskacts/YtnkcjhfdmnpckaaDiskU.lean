/-
  (*disk.Disk).Crash, Arm, Sync; disk.New: what the calls do.
-/
import Derived.Test.YtnkcjhfdmnpckaaDiskV
import Derived.OpenShut
namespace Go.Proofs.Ytnkcjhfdmnpckaa
open Go.RowKit
open Pd (spl spl_length spl_get clip clip_le DM)
section
variable {w : World} {c : Nat → Nat} {i D n : Nat} {m : DM}
theorem InB_nil (b : Nat) : ¬ InB (.slice none 0 0) b := fun ⟨_, _, _, e, _⟩ => by cases e
/-- A crash of a disk with power. -/
theorem isD_crash {S M cap N : Nat} {s : St} {w' : World} (hR : Rel n s m) (hW : Wf n N s) (keep : List Int) (t : Int) (hA : At w' D S M n cap 0 (.slice none 0 0) (.slice none 0 0) (crashS s keep (clip t))) {c' : Nat → Nat} (h1 : c' D = i) (h2 : c' S = i) (h3 : c' M = i) (h6 : i ≠ 0) :
    IsD w' c' i D n (Pd.crash m keep t) :=
  ⟨S, M, cap, 0, _, _, _, hA, Wf.crash s keep _, hR.crash hW keep t, h1, h2, h3, fun b hb => (by cases hb), fun b hb => absurd hb (InB_nil b), h6⟩
theorem dCrash_any (h : IsD w c i D n m) (hc : ∀ k, w.heap.size ≤ k → c k = 0) (v : Value) (l : List Int) (t : Int) (hr : RdN w v l) (hl : ∀ k ∈ l, (Lit.int .i64 k).wf = true) (hv : Cool c v) :
    Calls Try.prog 21 #[.pointer (some ⟨D, 0, none⟩), v, .int .i64 t] w fun e w' => e = .returned (.bool (Pd.crashed m l t).1) ∧ ∃ c', IsD w' c' i D n (Pd.crashed m l t).2 ∧ Step c i w c' w' := by
  obtain ⟨S, M, cap, N, vo, vk, s, hA, hW, hR, h1, h2, h3, h4, h5, h6⟩ := h
  have hon := hR.on
  cases ho : m.off with
  | true =>
    rw [ho] at hon
    have e1 : Pd.crashed m l t = (false, m) := by unfold Pd.crashed; rw [ho]; rfl
    rw [e1]
    have hd := hA.d
    rw [hon] at hd
    refine (crash_off hd hA.pos v t).mono ?_
    rintro e w' ⟨rfl, rfl⟩
    exact ⟨rfl, c, ⟨S, M, cap, N, vo, vk, s, hA, hW, hR, h1, h2, h3, h4, h5, h6⟩, ⟨Chg.refl _ _, fun _ _ => rfl, hc⟩⟩
  | false =>
    rw [ho] at hon
    have e1 : Pd.crashed m l t = (true, Pd.crash m l t) := by unfold Pd.crashed; rw [ho]; rfl
    rw [e1]
    refine (crash_on hA hW hon v l t hr hl (fun b hb => ⟨fun e => h6 (by rw [← h2, ← e]; exact hv b hb), fun e => h6 (by rw [← h3, ← e]; exact hv b hb)⟩) (fun b hb => ⟨fun e => h6 (by rw [← h2, ← e]; exact h5 b hb), fun e => h6 (by rw [← h3, ← e]; exact h5 b hb)⟩)).mono ?_
    rintro e w' ⟨rfl, hA', hU⟩
    have hU' : Chg (fun k => c k = i) w w' := hU.mono (fun k _ e => by rcases e with e | e | e <;> (rw [e]; assumption))
    refine ⟨rfl, paint c w w' i, ?_, Step.of_paint hU'⟩
    exact isD_crash hR hW l t hA' ((paint_old hA.d.lt).trans h1) ((paint_old hA.sf.lt).trans h2) ((paint_old hA.mp.lt).trans h3) h6
/-- What Arm makes of a disk. -/
def armS (s : St) (ops : Int) (l : List Int) (t : Int) : St := if 0 < ops then { s with ops := ops.toNat, keep := l, torn := t } else { s with ops := 0, keep := [], torn := 0 }
set_option maxHeartbeats 1000000 in
set_option maxRecDepth 100000 in
theorem arm_any {S M cap N : Nat} {vo vk : Value} {s : St} (h : At w D S M n cap N vo vk s) (ops : Int) (hops : (Lit.int .i64 ops).wf = true) (v : Value) (l : List Int) (t : Int) (hr : RdN w v l) (hl : ∀ k ∈ l, (Lit.int .i64 k).wf = true) (hl2 : l.length ≤ 1000000) (hvD : ∀ b, InB v b → b ≠ D) :
    Calls Try.prog 24 #[.pointer (some ⟨D, 0, none⟩), .int .i64 ops, v, .int .i64 t] w fun e w' => e = .returned (.tuple #[]) ∧ Chg (fun k => k = D) w w' ∧
      ∃ vk', At w' D S M n cap N vo vk' (armS s ops l t) ∧ (∀ b, InB vk' b → w.heap.size ≤ b) := by
  have HA : Hid (At w D S M n cap N vo vk s) := h
  have HR : Hid (RdN w v l) := hr
  have HL : Hid (∀ k ∈ l, (Lit.int .i64 k).wf = true) := hl
  have HVD : Hid (∀ b, InB v b → b ≠ D) := hvD
  have z4 := h.d.frozen 4
  have z5 := h.d.frozen 5
  have z6 := h.d.frozen 6
  have c4 := h.d.cell (j := 4) rfl
  have c5 := h.d.cell (j := 5) rfl
  have c6 := h.d.cell (j := 6) rfl
  have bd := bounds_i64 hops
  clear h hr hl hops hvD
  go_enter Try.func24, Try.ntmps24
  go_wp2_with fail
  refine (isMade_any HA.out.d HA.out.pos).mono ?_
  rintro e w0 ⟨rfl, hw⟩; subst hw
  go_upto_region 2 with fail
  obtain ⟨w1, hw1⟩ : ∃ x, x = ((w0.setCell ⟨D, 4, none⟩ (.int .i64 0)).setCell ⟨D, 5, none⟩ (.slice none 0 0)).setCell ⟨D, 6, none⟩ (.int .i64 0) := ⟨_, rfl⟩
  rw [← hw1]
  have U1 : Hid (Chg (fun k => k = D) w0 w1) := (show Chg _ _ _ by rw [hw1]; exact ((Chg.cellD _ _ _ _).trans (Chg.cellD _ _ _ _)).trans (Chg.cellD _ _ _ _))
  have A1 : Hid (At w1 D S M n cap N vo (.slice none 0 0) { s with ops := 0, keep := [], torn := 0 }) := (show At _ _ _ _ _ _ _ _ _ _ by
    have hA := HA.out
    have hB := ((hA.d.set 4 (.int .i64 0)).set 5 (.slice none 0 0)).set 6 (.int .i64 0)
    rw [← hw1] at hB
    exact ⟨hB, hA.sf.chg U1.out (fun e => hA.DS e.symm), hA.mp.chg U1.out (fun e => hA.DM e.symm), hA.od.chg U1.out (fun b hb e => (hA.VD hb).1 e), RdN_nil _, fun k hk => (by cases hk), hA.pos, hA.max⟩)
  have R1 : Hid (RdN w1 v l) := HR.out.chg U1.out (fun b hb e => HVD.out b hb e)
  clear hw1 z4 z5 z6 c4 c5 c6
  by_cases hp : 0 < ops
  · go_wp2_with fail
    refine (cloneI_any R1.out hl2).mono ?_
    rintro e w2 ⟨vk', rfl, ho, hnew, hb⟩
    have A2 : Hid (At w2 D S M n cap N vo (.slice none 0 0) { s with ops := 0, keep := [], torn := 0 }) := A1.out.kept hb
    have z4 := A2.out.d.frozen 4
    have z5 := A2.out.d.frozen 5
    have z6 := A2.out.d.frozen 6
    have c4 := A2.out.d.cell (j := 4) rfl
    have c5 := A2.out.d.cell (j := 5) rfl
    have c6 := A2.out.d.cell (j := 6) rfl
    have HO : Hid (OwnN w2 vk' l) := ho
    have HN : Hid (∀ b, vk'.ownBlock = some b → w1.heap.size ≤ b) := hnew
    have HB : Hid (Below w1.heap.size w1 w2) := hb
    obtain ⟨a, cp, hvk, -⟩ := ho.rd
    clear ho hnew hb
    subst hvk
    go_wp2
    go_end0
    obtain ⟨w3, hw3⟩ : ∃ x, x = ((w2.setCell ⟨D, 4, none⟩ (.int .i64 ops)).setCell ⟨D, 5, none⟩ (.slice a l.length cp)).setCell ⟨D, 6, none⟩ (.int .i64 t) := ⟨_, rfl⟩
    rw [← hw3]
    have hU : Chg (fun k => k = D) w2 w3 := by rw [hw3]; exact ((Chg.cellD _ _ _ _).trans (Chg.cellD _ _ _ _)).trans (Chg.cellD _ _ _ _)
    have hA := A2.out
    have hB := ((hA.d.set 4 (.int .i64 ops)).set 5 (.slice a l.length cp)).set 6 (.int .i64 t)
    rw [← hw3] at hB
    have hnB : ∀ b, InB (.slice a l.length cp) b → w1.heap.size ≤ b := by
      rintro b ⟨off, k, cp', e, hk⟩
      cases e
      exact HN.out b rfl
    refine ⟨rfl, (U1.out.trans (Chg.of_below HB.out)).trans hU, .slice a l.length cp, ?_, fun b hb => Nat.le_trans U1.out.size (hnB b hb)⟩
    unfold armS
    rw [if_pos hp]
    refine ⟨?_, hA.sf.chg hU (fun e => hA.DS e.symm), hA.mp.chg hU (fun e => hA.DM e.symm), hA.od.chg hU (fun b hb e => (hA.VD hb).1 e), ?_, HL.out, hA.pos, hA.max⟩
    · have : ((ops.toNat : Nat) : Int) = ops := by omega
      show Blk w3 D _ (DB s.on S n cap M vo ((ops.toNat : Nat) : Int) _ t)
      rw [this]
      exact hB
    · exact (OwnN.rd HO.out).chg hU (fun b hb e => by
        have := hnB b hb
        have := A1.out.d.lt
        omega)
  · go_wp2
    go_end0
    exact ⟨rfl, U1.out, .slice none 0 0, by unfold armS; rw [if_neg (by omega)]; exact A1.out, fun b hb => absurd hb (InB_nil b)⟩
theorem dArm_any (h : IsD w c i D n m) (ops : Int) (hops : (Lit.int .i64 ops).wf = true) (v : Value) (l : List Int) (t : Int) (hr : RdN w v l) (hl : ∀ k ∈ l, (Lit.int .i64 k).wf = true) (hl2 : l.length ≤ 1000000) (hv : Cool c v) :
    Calls Try.prog 24 #[.pointer (some ⟨D, 0, none⟩), .int .i64 ops, v, .int .i64 t] w fun e w' => e = .returned (.tuple #[]) ∧ ∃ c', IsD w' c' i D n (Pd.arm m ops l t) ∧ Step c i w c' w' := by
  obtain ⟨S, M, cap, N, vo, vk, s, hA, hW, hR, h1, h2, h3, h4, h5, h6⟩ := h
  have bd := bounds_i64 hops
  refine (arm_any hA ops hops v l t hr hl hl2 (fun b hb e => h6 (by rw [← h1, ← e]; exact hv b hb))).mono ?_
  rintro e w' ⟨rfl, hU, vk', hA', hnew⟩
  have hU' : Chg (fun k => c k = i) w w' := hU.mono (fun k _ e => by rw [e]; exact h1)
  refine ⟨rfl, paint c w w' 0, ⟨S, M, cap, N, vo, vk', _, hA', ?_, ?_, (paint_old hA.d.lt).trans h1, (paint_old hA.sf.lt).trans h2, (paint_old hA.mp.lt).trans h3, fun b hb => (paint_old (own_lt hA.od hb)).trans (h4 b hb), fun b hb => ?_, h6⟩, Step.of_paint hU'⟩
  · unfold armS
    split
    · exact ⟨hW.nodup, hW.low, hW.keys, hW.cnt⟩
    · exact ⟨hW.nodup, hW.low, hW.keys, hW.cnt⟩
  · unfold armS
    split
    · exact ⟨hR.on, hR.safe, hR.order, hR.f, rfl, fun _ => ⟨rfl, rfl⟩, ⟨hR.ok.now, hR.ok.safe, hR.ok.nodup, hR.ok.low, hR.ok.alike⟩, hR.dark, by show ops.toNat ≤ _; omega⟩
    · have e0 : ops.toNat = 0 := by omega
      exact ⟨hR.on, hR.safe, hR.order, hR.f, e0.symm, fun e => absurd e0 e, ⟨hR.ok.now, hR.ok.safe, hR.ok.nodup, hR.ok.low, hR.ok.alike⟩, hR.dark, by show ops.toNat ≤ _; omega⟩
  · exact paint_new (hnew b hb) (hA'.kp.inB_lt hb)
set_option maxHeartbeats 1000000 in
set_option maxRecDepth 100000 in
theorem sync_off {S M cap : Nat} {vo vk : Value} {ops torn : Int} (hB : Blk w D 56 (DB false S n cap M vo ops vk torn)) (hn : 0 < n) : Calls Try.prog 16 #[.pointer (some ⟨D, 0, none⟩)] w fun e w' => e = .returned (.int .i64 7) ∧ w' = w := by
  have HB : Hid (Blk w D 56 (DB false S n cap M vo ops vk torn)) := hB
  clear hB
  go_enter Try.func16, Try.ntmps16
  go_wp2_with fail
  refine (ready_any HB.out hn).mono ?_
  rintro e w1 ⟨rfl, hw⟩; subst hw
  simp only [Bool.false_eq_true, if_false]
  go_wp2
  go_ret
  exact ⟨rfl, rfl⟩
set_option maxHeartbeats 1000000 in
set_option maxRecDepth 100000 in
theorem sync_none {S M cap : Nat} {a : Option Addr} {cp : Nat} {vk : Value} {ops torn : Int} (hB : Blk w D 56 (DB true S n cap M (.slice a 0 cp) ops vk torn)) (hn : 0 < n) : Calls Try.prog 16 #[.pointer (some ⟨D, 0, none⟩)] w fun e w' => e = .returned (.int .i64 0) ∧ w' = w := by
  have HB : Hid (Blk w D 56 (DB true S n cap M (.slice a 0 cp) ops vk torn)) := hB
  have c3 := hB.cell (j := 3) rfl
  clear hB
  go_enter Try.func16, Try.ntmps16
  go_wp2_with fail
  refine (ready_any HB.out hn).mono ?_
  rintro e w1 ⟨rfl, hw⟩; subst hw
  simp only [if_true]
  go_wp2
  go_ret
  exact ⟨rfl, rfl⟩
/-- fails, whatever is in store. -/
theorem fails_any {S M cap N : Nat} {vo vk : Value} {s : St} (hA : At w D S M n cap N vo vk s) (hW : Wf n N s) (hR : Rel n s m) (hon : m.off = false) (hvk : ∀ b, InB vk b → b ≠ D ∧ b ≠ S ∧ b ≠ M) :
    Calls Try.prog 34 #[.pointer (some ⟨D, 0, none⟩)] w fun e w' => e = .returned (.bool (Pd.strike m).1) ∧ Chg (fun k => k = D ∨ k = S ∨ k = M) w w' ∧
      ((Pd.strike m).1 = false → ∃ s', At w' D S M n cap N vo vk s' ∧ Wf n N s' ∧ Rel n s' (Pd.strike m).2) ∧
      ((Pd.strike m).1 = true → ∃ s', At w' D S M n cap 0 (.slice none 0 0) (.slice none 0 0) s' ∧ Wf n 0 s' ∧ Rel n s' (Pd.strike m).2) := by
  have hso : s.on = true := by rw [hR.on, hon]; rfl
  by_cases h0 : m.armed = 0
  · have e1 : Pd.strike m = (false, m) := by unfold Pd.strike; rw [if_pos h0]
    rw [e1]
    have hd := hA.d
    rw [hR.ops, h0] at hd
    refine (fails_none hd).mono ?_
    rintro e w' ⟨rfl, rfl⟩
    exact ⟨rfl, Chg.refl _ _, fun _ => ⟨s, hA, hW, hR⟩, fun e => (by cases e)⟩
  · by_cases h1 : m.armed = 1
    · have e1 : Pd.strike m = (true, Pd.crash m m.keep m.torn) := by unfold Pd.strike; rw [if_neg h0, if_pos h1]
      rw [e1]
      refine (fails_now hA hW hso (by rw [hR.ops, h1]) hvk).mono ?_
      rintro e w' ⟨rfl, hA', hU⟩
      obtain ⟨k1, k2⟩ := hR.arms h0
      refine ⟨rfl, hU, fun e => (by cases e), fun _ => ⟨_, hA', Wf.crash _ _ _, ?_⟩⟩
      have e2 : Pd.crash m m.keep m.torn = Pd.crash { m with armed := 0 } s.keep s.torn := by rw [k1, k2]; rfl
      show Rel n _ (Pd.crash m m.keep m.torn)
      rw [e2]
      exact (hR.strike0).crash (hW.ops 0) s.keep s.torn
    · obtain ⟨k, hk⟩ : ∃ k, m.armed = k + 2 := ⟨m.armed - 2, by omega⟩
      have e1 : Pd.strike m = (false, { m with armed := k + 1 }) := by unfold Pd.strike; rw [if_neg h0, if_neg h1, hk]; rfl
      rw [e1]
      have hsm := hR.small
      refine (fails_more hA k (by rw [hR.ops, hk]) (by omega) (fun b hb => (hvk b hb).1)).mono ?_
      rintro e w' ⟨rfl, hA', hU⟩
      exact ⟨rfl, hU.mono (fun _ _ e => .inl e), fun _ => ⟨_, hA', hW.ops _, hR.strike1 hk⟩, fun e => (by cases e)⟩
set_option maxHeartbeats 1000000 in
set_option maxRecDepth 100000 in
theorem sync_go {S M cap N : Nat} {vo vk : Value} {s : St} (hA : At w D S M n cap N vo vk s) (hW : Wf n N s) (hR : Rel n s m) (hon : m.off = false) (hd : m.dirty ≠ []) (hvk : ∀ b, InB vk b → b ≠ D ∧ b ≠ S ∧ b ≠ M) :
    Calls Try.prog 16 #[.pointer (some ⟨D, 0, none⟩)] w fun e w' => e = .returned (.int .i64 ((Pd.sync m).1 : Int)) ∧ Chg (fun k => k = D ∨ k = S ∨ k = M) w w' ∧ ∃ N' vo' vk' s', At w' D S M n cap N' vo' vk' s' ∧ Wf n N' s' ∧ Rel n s' (Pd.sync m).2 ∧ (vo' = vo ∨ vo' = .slice none 0 0) ∧ (vk' = vk ∨ vk' = .slice none 0 0) := by
  have HA : Hid (At w D S M n cap N vo vk s) := hA
  have HW : Hid (Wf n N s) := hW
  have HR : Hid (Rel n s m) := hR
  have HVK : Hid (∀ b, InB vk b → b ≠ D ∧ b ≠ S ∧ b ≠ M) := hvk
  have hso : s.on = true := by rw [hR.on, hon]; rfl
  have hdd := hA.d
  rw [hso] at hdd
  have HD : Hid (Blk w D 56 (DB true S n cap M vo s.ops vk s.torn)) := hdd
  have hp := hA.pos
  obtain ⟨a, cp, e, h1, h2, h3, h4⟩ := hA.od.rd
  have c3 := hA.d.cell (j := 3) rfl
  have c3' : w.cell? ⟨D, 3, none⟩ = some (.slice a (Nats s.order).length cp) := by rw [← e]; exact c3
  have hlen : ¬ (Nats s.order).length = 0 := fun e => hd (by rw [← hR.order]; exact List.eq_nil_of_length_eq_zero (by rw [← Nats_length]; exact e))
  have q1 : (((Nats s.order).length : Int) == 0) = false := by simp; exact fun e => hlen (by rw [e]; rfl)
  obtain ⟨L, HL⟩ : ∃ L, Hid ((Nats s.order).length = L) := ⟨_, rfl⟩
  rw [HL.out] at c3' q1
  clear hA hW hR hvk hdd c3 h1 h2 h3 h4 hlen e
  obtain ⟨r, HRC⟩ : ∃ r, Hid (Pd.sync m = r) := ⟨_, rfl⟩
  rw [HRC.out]
  go_enter Try.func16, Try.ntmps16
  go_wp2_with fail
  refine (ready_any HD.out hp).mono ?_
  rintro e w1 ⟨rfl, hw⟩; subst hw
  simp only [if_true]
  go_wp2_with fail
  refine (fails_any HA.out HW.out HR.out hon HVK.out).mono ?_
  rintro e w2 ⟨rfl, u2, f2, t2⟩
  have U2 : Hid (Chg (fun k => k = D ∨ k = S ∨ k = M) w1 w2) := u2
  have hsync : Pd.sync m = (match Pd.strike m with | (true, e) => (7, e) | (false, e) => (0, { e with safe := e.now, dirty := [] })) := by
    conv => lhs; unfold Pd.sync
    rw [if_neg (by rw [hon]; simp), if_neg hd]
    rfl
  cases hs : Pd.strike m with
  | mk x e =>
    rw [hs] at f2 t2 hsync
    cases x with
    | true =>
      obtain ⟨s', hA', hW', hR'⟩ := t2 rfl
      have HE : Hid (r = (7, e)) := (show _ = _ by rw [← HRC.out, hsync])
      have A2 : Hid _ := hA'
      clear f2 t2 u2 hsync hA'
      go_wp2
      go_ret
      rw [HE.out]
      exact ⟨rfl, U2.out, 0, _, _, s', A2.out, hW', hR', .inr rfl, .inr rfl⟩
    | false =>
      obtain ⟨s', hA', hW', hR'⟩ := f2 rfl
      have HE : Hid (r = (0, { e with safe := e.now, dirty := [] })) := (show _ = _ by rw [← HRC.out, hsync])
      have A2 : Hid (At w2 D S M n cap N vo vk s') := hA'
      have W2 : Hid (Wf n N s') := hW'
      have R2 : Hid (Rel n s' e) := hR'
      have c3 := hA'.d.cell (j := 3) rfl
      have HST := settle_any hA' hW' vo (Nats s'.order) hA'.od.rd (fun k hk => by
        unfold Nats at hk
        obtain ⟨j, hj, rfl⟩ := List.mem_map.1 hk
        exact i64_of_nat (by have := hW'.low j hj; have := hA'.max; omega)) (fun b hb => by
        obtain ⟨off, k, cp', e, hk⟩ := hb
        exact (hA'.VD (b := b) (by rw [e]; rfl)).2) (fun b hb => (HVK.out b hb).2) (fun b hb => (hA'.VD hb).2)
      clear f2 t2 u2 hsync hA' hW' hR' c3'
      go_wp2_with fail
      refine HST.mono ?_
      rintro e' w3 ⟨rfl, N3, a3, f3, u3⟩
      have A3 : Hid (At w3 D S M n cap N3 vo vk (settleS s' (Nats s'.order))) := a3
      have U3 : Hid (Chg (fun k => k = S ∨ k = M) w2 w3) := u3
      obtain ⟨hR3, hW3, hN3⟩ := R2.out.sync W2.out f3
      have HR3 : Hid _ := hR3
      have HW3 : Hid _ := hW3
      have c3 := a3.d.cell (j := 3) rfl
      have z3 := a3.d.frozen 3
      clear a3 f3 u3 hR3 hW3
      go_wp2
      go_ret
      rw [HE.out]
      obtain ⟨w4, hw4⟩ : ∃ x, x = w3.setCell ⟨D, 3, none⟩ (.slice none 0 0) := ⟨_, rfl⟩
      rw [← hw4]
      have hU : Chg (fun k => k = D) w3 w4 := by rw [hw4]; exact Chg.cellD _ _ _ _
      have hA := A3.out
      have hB := hA.d.set 3 (.slice none 0 0)
      rw [← hw4] at hB
      refine ⟨rfl, (U2.out.trans (U3.out.mono (fun _ _ e => .inr e))).trans (hU.mono (fun _ _ e => .inl e)), N3, .slice none 0 0, vk, { settleS s' (Nats s'.order) with order := [] }, ⟨hB, hA.sf.chg hU (fun e => hA.DS e.symm), hA.mp.chg hU (fun e => hA.DM e.symm), OwnN_nil _, hA.kp.chg hU (fun b hb e => (HVK.out b hb).1 e), hA.kw, hA.pos, hA.max⟩, HW3.out, HR3.out, .inr rfl, .inl rfl⟩
theorem dSync_any (h : IsD w c i D n m) (hc : ∀ k, w.heap.size ≤ k → c k = 0) : Calls Try.prog 16 #[.pointer (some ⟨D, 0, none⟩)] w fun e w' => e = .returned (.int .i64 ((Pd.sync m).1 : Int)) ∧ ∃ c', IsD w' c' i D n (Pd.sync m).2 ∧ Step c i w c' w' := by
  obtain ⟨S, M, cap, N, vo, vk, s, hA, hW, hR, h1, h2, h3, h4, h5, h6⟩ := h
  have hon := hR.on
  cases ho : m.off with
  | true =>
    rw [ho] at hon
    have e1 : Pd.sync m = (7, m) := by unfold Pd.sync; rw [ho]; rfl
    rw [e1]
    have hd := hA.d
    rw [hon] at hd
    refine (sync_off hd hA.pos).mono ?_
    rintro e w' ⟨rfl, rfl⟩
    exact ⟨rfl, c, ⟨S, M, cap, N, vo, vk, s, hA, hW, hR, h1, h2, h3, h4, h5, h6⟩, ⟨Chg.refl _ _, fun _ _ => rfl, hc⟩⟩
  | false =>
    rw [ho] at hon
    by_cases hd : m.dirty = []
    · have e1 : Pd.sync m = (0, m) := by unfold Pd.sync; rw [ho, if_neg (by simp), if_pos hd]
      rw [e1]
      obtain ⟨a, cp, e, -⟩ := hA.od.rd
      have hB := hA.d
      rw [hon, e, hR.order, hd] at hB
      refine (sync_none hB hA.pos).mono ?_
      rintro e w' ⟨rfl, rfl⟩
      exact ⟨rfl, c, ⟨S, M, cap, N, vo, vk, s, hA, hW, hR, h1, h2, h3, h4, h5, h6⟩, ⟨Chg.refl _ _, fun _ _ => rfl, hc⟩⟩
    · refine (sync_go hA hW hR ho hd (fun b hb => ⟨fun e => h6 (by rw [← h1, ← e]; exact h5 b hb), fun e => h6 (by rw [← h2, ← e]; exact h5 b hb), fun e => h6 (by rw [← h3, ← e]; exact h5 b hb)⟩)).mono ?_
      rintro e w' ⟨rfl, hU, N', vo', vk', s', hA', hW', hR', hvo, hvk⟩
      have hU' : Chg (fun k => c k = i) w w' := hU.mono (fun k _ e => by rcases e with e | e | e <;> (rw [e]; assumption))
      refine ⟨rfl, paint c w w' i, ⟨S, M, cap, N', vo', vk', s', hA', hW', hR', (paint_old hA.d.lt).trans h1, (paint_old hA.sf.lt).trans h2, (paint_old hA.mp.lt).trans h3, fun b hb => ?_, fun b hb => ?_, h6⟩, Step.of_paint hU'⟩
      · rcases hvo with rfl | rfl
        · exact (paint_old (own_lt hA.od hb)).trans (h4 b hb)
        · cases hb
      · rcases hvk with rfl | rfl
        · exact (paint_old (hA.kp.inB_lt hb)).trans (h5 b hb)
        · exact absurd hb (InB_nil b)
end
end Go.Proofs.Ytnkcjhfdmnpckaa
