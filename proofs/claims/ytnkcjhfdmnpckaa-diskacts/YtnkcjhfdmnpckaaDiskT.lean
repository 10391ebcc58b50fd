/-
  (*disk.Disk).tear: what the call does.
-/
import Derived.Test.YtnkcjhfdmnpckaaDiskE
namespace Go.Proofs.Ytnkcjhfdmnpckaa
open Go.RowKit
open Pd (spl spl_length clip clip_le)
/-- What tear makes of a disk. -/
def tearS (s : St) (t : Nat) : St := match s.order.find? (fun k : Nat => (s.f k).isSome) with
  | some k => { s with safe := spl s.safe (32 * k) (((s.f k).getD []).take t) }
  | none => s
theorem run_max0 (t : Int) : ∃ c : Int, (∀ W, (Builtin.max_ #[3, 3] 3 #[.int .i64 t, .int .i64 0]).run Try.prog W = .ok (.int .i64 c) W) ∧ (∀ W, (Builtin.min_ #[3, 3] 3 #[.int .i64 c, .int .i64 32]).run Try.prog W = .ok (.int .i64 ((clip t : Nat) : Int)) W) := by
  unfold clip
  by_cases h1 : t < 0
  · refine ⟨0, fun W => ?_, fun W => ?_⟩
    · go_simp
    · go_simp
  · by_cases h2 : 32 < t
    · refine ⟨t, fun W => ?_, fun W => ?_⟩
      · go_simp
      · go_simp
    · refine ⟨t, fun W => ?_, fun W => ?_⟩
      · go_simp
      · go_simp
        omega
theorem slice_secAt (g o : Nat) (W : World) : (Instr.sliceAt 68 (.pointer (some ⟨g, o, none⟩)) none none none).run Try.prog W = .ok (.slice (some ⟨g, o, none⟩) 32 32) W := by
  simp [Instr.sliceAt, Instr.sureAddr, run_underlying Try.underlying68, Instr.sliceBounds, Addr.add_lit]
theorem slice_secTo (g t : Nat) (ht : t ≤ 32) (W : World) : (Instr.sliceAt 68 (.pointer (some ⟨g, 0, none⟩)) none (some (.int .i64 (t : Int))) none).run Try.prog W = .ok (.slice (some ⟨g, 0, none⟩) t 32) W := by
  have h9 : (t : Int) ≤ 32 := by omega
  simp [Instr.sliceAt, Instr.sureAddr, run_underlying Try.underlying68, Instr.sliceBounds, run_sliceBound, h9, Addr.add_lit]
set_option maxHeartbeats 2000000 in
set_option maxRecDepth 100000 in
theorem tear_any {w : World} {D S M n cap N : Nat} {vo vk : Value} {s : St} (h : At w D S M n cap N vo vk s) (hW : Wf n N s) (t : Int) (hvk : ∀ c, InB vk c → c ≠ S) :
    Calls Try.prog 42 #[.pointer (some ⟨D, 0, none⟩), .int .i64 t] w fun e w' => e = .returned (.tuple #[]) ∧ At w' D S M n cap N vo vk (tearS s (clip t)) ∧ Chg (fun c => c = S) w w' := by
  have HA : Hid (At w D S M n cap N vo vk s) := h
  have HW : Hid (Wf n N s) := hW
  have HVK : Hid (∀ c, InB vk c → c ≠ S) := hvk
  have hn := h.max
  obtain ⟨a, cp, e, h1, h2, h3, h4⟩ := h.od.rd
  have c3 := h.d.cell (j := 3) rfl
  have c3' : w.cell? ⟨D, 3, none⟩ = some (.slice a (Nats s.order).length cp) := by rw [← e]; exact c3
  rw [Nats_length] at c3' h1
  clear h hW hvk h3 h4 c3
  have hz := zeroS
  obtain ⟨Z, HZ⟩ : ∃ Z, Hid (By Zs = Z) := ⟨_, rfl⟩
  rw [HZ.out] at hz
  have hzl : Z.length = 32 := by rw [← HZ.out]; rfl
  obtain ⟨c, hmx, hmn⟩ := run_max0 t
  obtain ⟨T, HT⟩ : ∃ T, Hid (clip t = T) := ⟨_, rfl⟩
  have hT32 : T ≤ 32 := by rw [← HT.out]; exact clip_le t
  rw [HT.out] at hmn ⊢
  obtain ⟨L, HL⟩ : ∃ L, Hid (s.order.length = L) := ⟨_, rfl⟩
  rw [HL.out] at c3' h1
  have hlm : L ≤ 9223372036854775807 := by unfold maxLen at h2; omega
  go_enter Try.func42, Try.ntmps42
  go_wp2_with fail
  go_loopg [16] L (fun g x wr => ∃ i : Nat, g + i = L ∧ x = .int .i64 (i : Int) ∧ Hid (∀ j, j < i → ∀ k : Nat, s.order[j]? = some k → s.f k = none) ∧ Hid (Below w.heap.size w wr))
  case atStart => exact ⟨0, by omega, rfl, fun j hj => by omega, Below.refl _ _⟩
  case round =>
    obtain ⟨i, hgi, rfl, HF, LR⟩ := hrel
    by_cases hlt : i < L
    · have q1 : (i : Int) < (L : Int) := by omega
      have hlt' : i < s.order.length := by rw [HL.out]; exact hlt
      obtain ⟨q, HQ⟩ : ∃ q, Hid (s.order[i] = q) := ⟨s.order[i], (show s.order[i] = s.order[i] from rfl)⟩
      have hqn : q < n := HW.out.low q (by rw [← HQ.out]; exact List.getElem_mem hlt')
      have AR : Hid (At wr D S M n cap N vo vk s) := HA.out.kept LR.out
      obtain ⟨a', cp', e', _, _, _, h4⟩ := AR.out.od.rd
      rw [e] at e'
      simp only [Value.slice.injEq] at e'
      obtain ⟨rfl, -, rfl⟩ := e'
      obtain ⟨b, off, rfl, hlb, hc⟩ := h4 (by rw [Nats_length]; omega)
      have cq := hc i (by rw [Nats_length]; exact hlt')
      rw [show (Nats s.order)[i]'(by rw [Nats_length]; exact hlt') = (q : Int) by simp only [Nats, List.getElem_map]; rw [HQ.out]] at cq
      clear hc h4 c3'
      have c1 := AR.out.d.cell (j := 1) rfl
      have c2 := AR.out.d.cell (j := 2) rfl
      obtain ⟨x, hx, hfx, hlk⟩ := AR.out.mp.look q (i64_of_nat (by omega))
      have X1 : Hid (∀ u ∈ By x, u.oneCell' = true) := By_one x
      have HXl : (By x).length = 32 := by rw [By_length, hx]
      obtain ⟨XX, HXX⟩ : ∃ X, Hid (By x = X) := ⟨_, rfl⟩
      rw [HXX.out] at hlk X1 HXl
      obtain ⟨E, HE⟩ : ∃ C, Hid (wr.heap.size = C) := ⟨_, rfl⟩
      go_upto_region 5 with (first
        | (refine wpList_store_new rfl 68 _ _ rfl wr _ _ _ rfl rfl rfl (by simpa [HXl] using Try.size68) (by simp [hzl, HXl]) (all_one X1.out) ?_)
        | fail)
      rw [HE.out]
      obtain ⟨w4, hw4⟩ : ∃ x, x = wr.alloc (.cells XX.toArray 68 (0, 0)) := ⟨_, rfl⟩
      rw [← hw4]
      have L4 : Hid (Below E wr w4) := (show Below _ _ _ by rw [hw4]; exact (Below.refl _ _).alloc (by rw [HE.out]; exact Nat.le_refl _) _)
      have A4 : Hid (At w4 D S M n cap N vo vk s) := AR.out.kept (by rw [HE.out]; exact L4.out)
      have LL4 : Hid (Below w.heap.size w w4) := LR.out.trans (L4.out.mono (by rw [← HE.out]; exact LR.out.size))
      have Y4 : Hid (Blk w4 E 68 XX) := (show Blk _ _ _ _ by rw [hw4, ← HE.out]; exact Blk.new wr 68 XX)
      have HES : Hid (E ≠ S) := (show _ from fun e => by have := AR.out.sf.lt; rw [HE.out] at this; omega)
      clear hw4 hlk c1 c2 cq AR L4
      cases hf : s.f q with
      | some y =>
        obtain rfl := hfx y hf
        simp only [Option.isSome_some]
        clear hfx
        have q2 : (q : Int) < (n : Int) := by omega
        go_upto_region 6 with fail
        have c1 := A4.out.d.drew.cell (j := 1) rfl
        have hs1 := slice_secAt S (q * 32)
        have hs2 := slice_secTo E T hT32
        refine wp_region_still_tail 9 Try.mixed (by kernel_rfl) ?_
        simp only [List.take_succ_cons, List.take_zero, List.drop_succ_cons, List.drop_zero]
        iterate 9 still_step
        refine wpStill_nil ?_
        obtain ⟨cur, hcur, hct, hcl, hnc, hcm⟩ := A4.out.sf.blk
        have hyT : (y.take T).length = T := by rw [List.length_take]; omega
        have RY : Rd w4.drew (.slice (some ⟨E, 0, none⟩) T 32) (y.take T) := by
          have h0 : Rd w4.drew (.slice (some ⟨E, 0, none⟩) 32 32) y := by
            refine ⟨_, 32, by rw [hx], by omega, by simp [maxLen], fun h => by simp at h, fun _ => ⟨E, 0, rfl, Y4.out.lt, fun j u hj => ?_⟩⟩
            rw [Nat.zero_add]
            refine Y4.out.drew.cell ?_
            rw [← HXX.out]
            exact hj
          exact h0.take T hT32
        refine wpList_copy_bytes rfl _ _ 29 29 rfl 5 Try.underlying29 Try.size5 S (q * 32) 32 32 _ (y.take T) rfl rfl RY (y.take T) T (by rw [List.take_of_length_le (by omega)]) hyT 68 cur hcur.drew (by omega) ?_
        obtain ⟨w5, hw5⟩ : ∃ x, x = w4.drew.setCells S (q * 32) (By (y.take T)) := ⟨_, rfl⟩
        have hw5' : ({ heap := w4.heap, tape := w4.tape, drawn := w4.drawn + 1, os := w4.os, output := w4.output } : World).setCells S (q * 32) (By (y.take T)) = w5 := hw5.symm
        rw [hw5']
        have UA : Hid (Chg (fun c => c = S) w4 w5) := (show Chg _ _ _ by rw [hw5]; exact (Chg.drew _ _).trans (Chg.setCells (F := fun c => c = S) _ rfl _ _))
        have A5 : Hid (At w5 D S M n cap N vo vk { s with safe := spl s.safe (32 * q) (y.take T) }) := (show At _ _ _ _ _ _ _ _ _ _ by
          have hA := A4.out
          refine ⟨hA.d.chg UA.out hA.DS, ?_, hA.mp.chg UA.out (fun e => hA.SM e.symm), hA.od.chg UA.out (fun c hc e => (hA.VD hc).2.1 e), hA.kp.chg UA.out (fun c hc e => HVK.out c hc e), hA.kw, hA.pos, hA.max⟩
          exact hA.drew.sf.store q hqn (y.take T) (by omega) hw5)
        have U5 : Hid (Chg (fun c => c = S) w w5) := (Chg.of_below LL4.out).trans UA.out
        clear hw5 hw5' UA c1 A4 Y4 hcur hct hcl hcm RY
        go_wp2_with fail
        refine bodyPost_ret (results_none rfl _ _ _) rfl ?_
        refine ⟨rfl, ?_, U5.out⟩
        have hsome : s.order.find? (fun k : Nat => (s.f k).isSome) = some q := by
          rw [List.find?_eq_some_iff_getElem]
          refine ⟨by rw [hf]; rfl, i, hlt', HQ.out, fun j hj => ?_⟩
          rw [HF.out j hj _ (List.getElem?_eq_getElem (by omega))]
          rfl
        unfold tearS
        rw [hsome]
        simp only
        rw [hf]
        exact A5.out
      | none =>
        simp only [Option.isSome_none]
        go_wp2_with fail
        go_roundg (gk - 1)
        case measure => omega
        case rel =>
          refine ⟨i + 1, by omega, by go_num, (show _ from fun j hj k hk => ?_), LL4⟩
          by_cases hji : j < i
          · exact HF.out j hji k hk
          · obtain rfl : j = i := by omega
            rw [List.getElem?_eq_getElem hlt', HQ.out] at hk
            cases hk
            exact hf
    · obtain rfl : i = L := by omega
      go_wp2_with fail
      go_end0
      refine ⟨rfl, ?_, Chg.of_below LR.out⟩
      have hnone : s.order.find? (fun k : Nat => (s.f k).isSome) = none := by
        rw [List.find?_eq_none]
        intro k hk
        obtain ⟨j, hj, rfl⟩ := List.getElem_of_mem hk
        rw [HF.out j (by rw [← HL.out]; exact hj) _ (List.getElem?_eq_getElem hj)]
        simp
      unfold tearS
      rw [hnone]
      exact HA.out.kept LR.out
end Go.Proofs.Ytnkcjhfdmnpckaa
