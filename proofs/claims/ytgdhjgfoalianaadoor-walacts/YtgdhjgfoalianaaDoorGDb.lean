/-
  Texts that ride together: DiskT DiskX DiskR DiskV DiskU.
-/
import Derived.Test.YtgdhjgfoalianaaDoorGDa
import Derived.OpenShut
/-
  (*disk.Disk).tear: what the call does.
-/
namespace Go.Proofs.YtgdhjgfoalianaaDoor
open Go.RowKit
open Pd (spl spl_length clip clip_le)
/-- What tear makes of a disk. -/
def tearS (s : St) (t : Nat) : St := match s.order.find? (fun k : Nat => (s.f k).isSome) with
  | some k => { s with safe := spl s.safe (32 * k) (((s.f k).getD []).take t) }
  | none => s
theorem run_max0 (t : Int) : ∃ c : Int, (∀ W, (Builtin.max_ #[3, 3] 3 #[.int .i64 t, .int .i64 0]).run Tryd.prog W = .ok (.int .i64 c) W) ∧ (∀ W, (Builtin.min_ #[3, 3] 3 #[.int .i64 c, .int .i64 32]).run Tryd.prog W = .ok (.int .i64 ((clip t : Nat) : Int)) W) := by
  unfold clip
  by_cases h1 : t < 0
  · refine ⟨0, fun W => ?_, fun W => ?_⟩
    · go_simp
    · go_simp
  · by_cases h2 : 32 < t
    · refine ⟨t, fun W => ?_, fun W => ?_⟩
      · go_simp
      · go_simp
    · refine ⟨t, fun W => ?_, fun W => ?_⟩
      · go_simp
      · go_simp
        omega
theorem slice_secAt (g o : Nat) (W : World) : (Instr.sliceAt 88 (.pointer (some ⟨g, o, none⟩)) none none none).run Tryd.prog W = .ok (.slice (some ⟨g, o, none⟩) 32 32) W := by
  simp [Instr.sliceAt, Instr.sureAddr, run_underlying Tryd.underlying88, Instr.sliceBounds, Addr.add_lit]
theorem slice_secTo (g t : Nat) (ht : t ≤ 32) (W : World) : (Instr.sliceAt 88 (.pointer (some ⟨g, 0, none⟩)) none (some (.int .i64 (t : Int))) none).run Tryd.prog W = .ok (.slice (some ⟨g, 0, none⟩) t 32) W := by
  have h9 : (t : Int) ≤ 32 := by omega
  simp [Instr.sliceAt, Instr.sureAddr, run_underlying Tryd.underlying88, Instr.sliceBounds, run_sliceBound, h9, Addr.add_lit]
set_option maxHeartbeats 2000000 in
set_option maxRecDepth 100000 in
theorem tear_any {w : World} {D S M n cap N : Nat} {vo vk : Value} {s : St} (h : At w D S M n cap N vo vk s) (hW : Wf n N s) (t : Int) (hvk : ∀ c, InB vk c → c ≠ S) :
    Calls Tryd.prog 42 #[.pointer (some ⟨D, 0, none⟩), .int .i64 t] w fun e w' => e = .returned (.tuple #[]) ∧ At w' D S M n cap N vo vk (tearS s (clip t)) ∧ Chg (fun c => c = S) w w' := by
  have HA : Hid (At w D S M n cap N vo vk s) := h
  have HW : Hid (Wf n N s) := hW
  have HVK : Hid (∀ c, InB vk c → c ≠ S) := hvk
  have hn := h.max
  obtain ⟨a, cp, e, h1, h2, h3, h4⟩ := h.od.rd
  have c3 := h.d.cell (j := 3) rfl
  have c3' : w.cell? ⟨D, 3, none⟩ = some (.slice a (Nats s.order).length cp) := by rw [← e]; exact c3
  rw [Nats_length] at c3' h1
  clear h hW hvk h3 h4 c3
  have hz := zeroS
  obtain ⟨Z, HZ⟩ : ∃ Z, Hid (By Zs = Z) := ⟨_, rfl⟩
  rw [HZ.out] at hz
  have hzl : Z.length = 32 := by rw [← HZ.out]; rfl
  obtain ⟨c, hmx, hmn⟩ := run_max0 t
  obtain ⟨T, HT⟩ : ∃ T, Hid (clip t = T) := ⟨_, rfl⟩
  have hT32 : T ≤ 32 := by rw [← HT.out]; exact clip_le t
  rw [HT.out] at hmn ⊢
  obtain ⟨L, HL⟩ : ∃ L, Hid (s.order.length = L) := ⟨_, rfl⟩
  rw [HL.out] at c3' h1
  have hlm : L ≤ 9223372036854775807 := by unfold maxLen at h2; omega
  go_enter Tryd.func42, Tryd.ntmps42
  go_wp2_with fail
  go_loopg [16] L (fun g x wr => ∃ i : Nat, g + i = L ∧ x = .int .i64 (i : Int) ∧ Hid (∀ j, j < i → ∀ k : Nat, s.order[j]? = some k → s.f k = none) ∧ Hid (Below w.heap.size w wr))
  case atStart => exact ⟨0, by omega, rfl, fun j hj => by omega, Below.refl _ _⟩
  case round =>
    obtain ⟨i, hgi, rfl, HF, LR⟩ := hrel
    by_cases hlt : i < L
    · have q1 : (i : Int) < (L : Int) := by omega
      have hlt' : i < s.order.length := by rw [HL.out]; exact hlt
      obtain ⟨q, HQ⟩ : ∃ q, Hid (s.order[i] = q) := ⟨s.order[i], (show s.order[i] = s.order[i] from rfl)⟩
      have hqn : q < n := HW.out.low q (by rw [← HQ.out]; exact List.getElem_mem hlt')
      have AR : Hid (At wr D S M n cap N vo vk s) := HA.out.kept LR.out
      obtain ⟨a', cp', e', _, _, _, h4⟩ := AR.out.od.rd
      rw [e] at e'
      simp only [Value.slice.injEq] at e'
      obtain ⟨rfl, -, rfl⟩ := e'
      obtain ⟨b, off, rfl, hlb, hc⟩ := h4 (by rw [Nats_length]; omega)
      have cq := hc i (by rw [Nats_length]; exact hlt')
      rw [show (Nats s.order)[i]'(by rw [Nats_length]; exact hlt') = (q : Int) by simp only [Nats, List.getElem_map]; rw [HQ.out]] at cq
      clear hc h4 c3'
      have c1 := AR.out.d.cell (j := 1) rfl
      have c2 := AR.out.d.cell (j := 2) rfl
      obtain ⟨x, hx, hfx, hlk⟩ := AR.out.mp.look q (i64_of_nat (by omega))
      have X1 : Hid (∀ u ∈ By x, u.oneCell' = true) := By_one x
      have HXl : (By x).length = 32 := by rw [By_length, hx]
      obtain ⟨XX, HXX⟩ : ∃ X, Hid (By x = X) := ⟨_, rfl⟩
      rw [HXX.out] at hlk X1 HXl
      obtain ⟨E, HE⟩ : ∃ C, Hid (wr.heap.size = C) := ⟨_, rfl⟩
      go_upto_region 5 with (first
        | (refine wpList_store_new rfl 88 _ _ rfl wr _ _ _ rfl rfl rfl (by simpa [HXl] using Tryd.size88) (by simp [hzl, HXl]) (all_one X1.out) ?_)
        | fail)
      rw [HE.out]
      obtain ⟨w4, hw4⟩ : ∃ x, x = wr.alloc (.cells XX.toArray 88 (0, 0)) := ⟨_, rfl⟩
      rw [← hw4]
      have L4 : Hid (Below E wr w4) := (show Below _ _ _ by rw [hw4]; exact (Below.refl _ _).alloc (by rw [HE.out]; exact Nat.le_refl _) _)
      have A4 : Hid (At w4 D S M n cap N vo vk s) := AR.out.kept (by rw [HE.out]; exact L4.out)
      have LL4 : Hid (Below w.heap.size w w4) := LR.out.trans (L4.out.mono (by rw [← HE.out]; exact LR.out.size))
      have Y4 : Hid (Blk w4 E 88 XX) := (show Blk _ _ _ _ by rw [hw4, ← HE.out]; exact Blk.new wr 88 XX)
      have HES : Hid (E ≠ S) := (show _ from fun e => by have := AR.out.sf.lt; rw [HE.out] at this; omega)
      clear hw4 hlk c1 c2 cq AR L4
      cases hf : s.f q with
      | some y =>
        obtain rfl := hfx y hf
        simp only [Option.isSome_some]
        clear hfx
        have q2 : (q : Int) < (n : Int) := by omega
        go_upto_region 6 with fail
        have c1 := A4.out.d.drew.cell (j := 1) rfl
        have hs1 := slice_secAt S (q * 32)
        have hs2 := slice_secTo E T hT32
        refine wp_region_still_tail 9 Tryd.mixed (by kernel_rfl) ?_
        simp only [List.take_succ_cons, List.take_zero, List.drop_succ_cons, List.drop_zero]
        iterate 9 still_step
        refine wpStill_nil ?_
        obtain ⟨cur, hcur, hct, hcl, hnc, hcm⟩ := A4.out.sf.blk
        have hyT : (y.take T).length = T := by rw [List.length_take]; omega
        have RY : Rd w4.drew (.slice (some ⟨E, 0, none⟩) T 32) (y.take T) := by
          have h0 : Rd w4.drew (.slice (some ⟨E, 0, none⟩) 32 32) y := by
            refine ⟨_, 32, by rw [hx], by omega, by simp [maxLen], fun h => by simp at h, fun _ => ⟨E, 0, rfl, Y4.out.lt, fun j u hj => ?_⟩⟩
            rw [Nat.zero_add]
            refine Y4.out.drew.cell ?_
            rw [← HXX.out]
            exact hj
          exact h0.take T hT32
        refine wpList_copy_bytes rfl _ _ 33 33 rfl 5 Tryd.underlying33 Tryd.size5 S (q * 32) 32 32 _ (y.take T) rfl rfl RY (y.take T) T (by rw [List.take_of_length_le (by omega)]) hyT 88 cur hcur.drew (by omega) ?_
        obtain ⟨w5, hw5⟩ : ∃ x, x = w4.drew.setCells S (q * 32) (By (y.take T)) := ⟨_, rfl⟩
        have hw5' : ({ heap := w4.heap, tape := w4.tape, drawn := w4.drawn + 1, os := w4.os, output := w4.output } : World).setCells S (q * 32) (By (y.take T)) = w5 := hw5.symm
        rw [hw5']
        have UA : Hid (Chg (fun c => c = S) w4 w5) := (show Chg _ _ _ by rw [hw5]; exact (Chg.drew _ _).trans (Chg.setCells (F := fun c => c = S) _ rfl _ _))
        have A5 : Hid (At w5 D S M n cap N vo vk { s with safe := spl s.safe (32 * q) (y.take T) }) := (show At _ _ _ _ _ _ _ _ _ _ by
          have hA := A4.out
          refine ⟨hA.d.chg UA.out hA.DS, ?_, hA.mp.chg UA.out (fun e => hA.SM e.symm), hA.od.chg UA.out (fun c hc e => (hA.VD hc).2.1 e), hA.kp.chg UA.out (fun c hc e => HVK.out c hc e), hA.kw, hA.pos, hA.max⟩
          exact hA.drew.sf.store q hqn (y.take T) (by omega) hw5)
        have U5 : Hid (Chg (fun c => c = S) w w5) := (Chg.of_below LL4.out).trans UA.out
        clear hw5 hw5' UA c1 A4 Y4 hcur hct hcl hcm RY
        go_wp2_with fail
        refine bodyPost_ret (results_none rfl _ _ _) rfl ?_
        refine ⟨rfl, ?_, U5.out⟩
        have hsome : s.order.find? (fun k : Nat => (s.f k).isSome) = some q := by
          rw [List.find?_eq_some_iff_getElem]
          refine ⟨by rw [hf]; rfl, i, hlt', HQ.out, fun j hj => ?_⟩
          rw [HF.out j hj _ (List.getElem?_eq_getElem (by omega))]
          rfl
        unfold tearS
        rw [hsome]
        simp only
        rw [hf]
        exact A5.out
      | none =>
        simp only [Option.isSome_none]
        go_wp2_with fail
        go_roundg (gk - 1)
        case measure => omega
        case rel =>
          refine ⟨i + 1, by omega, by go_num, (show _ from fun j hj k hk => ?_), LL4⟩
          by_cases hji : j < i
          · exact HF.out j hji k hk
          · obtain rfl : j = i := by omega
            rw [List.getElem?_eq_getElem hlt', HQ.out] at hk
            cases hk
            exact hf
    · obtain rfl : i = L := by omega
      go_wp2_with fail
      go_end0
      refine ⟨rfl, ?_, Chg.of_below LR.out⟩
      have hnone : s.order.find? (fun k : Nat => (s.f k).isSome) = none := by
        rw [List.find?_eq_none]
        intro k hk
        obtain ⟨j, hj, rfl⟩ := List.getElem_of_mem hk
        rw [HF.out j (by rw [← HL.out]; exact hj) _ (List.getElem?_eq_getElem hj)]
        simp
      unfold tearS
      rw [hnone]
      exact HA.out.kept LR.out
end Go.Proofs.YtgdhjgfoalianaaDoor

/-
  (*disk.Disk).Crash, fails: what the calls do.
-/
namespace Go.Proofs.YtgdhjgfoalianaaDoor
open Go.RowKit
open Pd (spl spl_length clip clip_le)
theorem Chg.cellD (w : World) (D j : Nat) (v : Value) : Chg (fun c => c = D) w (w.setCell ⟨D, j, none⟩ v) := Chg.setCell (F := fun c => c = D) w rfl j v
def delS (f : Int → Option (List UInt8)) : List Nat → Int → Option (List UInt8)
  | [] => f
  | k :: r => delS (del f k) r
theorem delS_append (k : Nat) : ∀ (l : List Nat) (f : Int → Option (List UInt8)), delS f (l ++ [k]) = del (delS f l) k
  | [], _ => rfl
  | _ :: r, _ => delS_append k r _
theorem delS_take (f : Int → Option (List UInt8)) (l : List Nat) (i : Nat) (hi : i < l.length) : delS f (l.take (i + 1)) = del (delS f (l.take i)) l[i] := by
  rw [List.take_add_one, List.getElem?_eq_getElem hi, Option.toList_some, delS_append]
theorem delS_some {j : Int} : ∀ {l : List Nat} {f : Int → Option (List UInt8)}, (delS f l j).isSome = true → (f j).isSome = true ∧ ∀ k ∈ l, j ≠ (k : Int)
  | [], _, h => ⟨h, fun k hk => by cases hk⟩
  | k :: r, f, h => by
    obtain ⟨h1, h2⟩ := delS_some (l := r) (f := del f k) h
    unfold del at h1
    by_cases e : j = (k : Int)
    · rw [if_pos e] at h1; cases h1
    · rw [if_neg e] at h1
      exact ⟨h1, fun x hx => (List.mem_cons.1 hx).elim (fun e' => e' ▸ e) (h2 x)⟩
theorem delS_none {n N : Nat} {s : St} (h : Wf n N s) : delS s.f s.order = fun _ => none := by
  funext j
  cases hj : delS s.f s.order j with
  | none => rfl
  | some x =>
    obtain ⟨h1, h2⟩ := delS_some (j := j) (l := s.order) (f := s.f) (by rw [hj]; rfl)
    obtain ⟨k, hk, e⟩ := h.keys j h1
    exact absurd e (h2 k hk)
/-- What a loss of power makes of a disk. -/
def crashS (s : St) (keep : List Int) (t : Nat) : St := { on := false, safe := (tearS (settleS s keep) t).safe, f := fun _ => none, order := [], ops := 0, keep := [], torn := 0 }
theorem tearS_same (s : St) (t : Nat) : (tearS s t).f = s.f ∧ (tearS s t).order = s.order ∧ (tearS s t).on = s.on ∧ (tearS s t).ops = s.ops ∧ (tearS s t).keep = s.keep ∧ (tearS s t).torn = s.torn := by
  unfold tearS; split <;> exact ⟨rfl, rfl, rfl, rfl, rfl, rfl⟩
theorem Wf.tear {n N : Nat} {s : St} (h : Wf n N s) (t : Nat) : Wf n N (tearS s t) := by
  obtain ⟨a, b, _⟩ := tearS_same s t
  exact ⟨by rw [b]; exact h.nodup, by rw [b]; exact h.low, by rw [a, b]; exact h.keys, by rw [a, b]; exact h.cnt⟩
set_option maxRecDepth 100000 in
theorem crash_off {w : World} {D S M n cap : Nat} {vo vk : Value} {ops torn : Int} (hB : Blk w D 67 (DB false S n cap M vo ops vk torn)) (hn : 0 < n) (v : Value) (t : Int) :
    Calls Tryd.prog 18 #[.pointer (some ⟨D, 0, none⟩), v, .int .i64 t] w fun e w' => e = .returned (.bool false) ∧ w' = w := by
  have HB : Hid (Blk w D 67 (DB false S n cap M vo ops vk torn)) := hB
  clear hB
  go_enter Tryd.func18, Tryd.ntmps18
  go_wp2_with fail
  refine (on_any HB.out hn).mono ?_
  rintro e w1 ⟨rfl, hw⟩; subst hw
  go_wp2
  go_ret
  exact ⟨rfl, rfl⟩
set_option maxHeartbeats 2000000 in
set_option maxRecDepth 100000 in
theorem crash_on {w : World} {D S M n cap N : Nat} {vo vk : Value} {s : St} (h : At w D S M n cap N vo vk s) (hW : Wf n N s) (hon : s.on = true) (v : Value) (l : List Int) (t : Int) (hr : RdN w v l) (hl : ∀ k ∈ l, (Lit.int .i64 k).wf = true)
    (hvb : ∀ c, InB v c → c ≠ S ∧ c ≠ M) (hvk : ∀ c, InB vk c → c ≠ S ∧ c ≠ M) :
    Calls Tryd.prog 18 #[.pointer (some ⟨D, 0, none⟩), v, .int .i64 t] w fun e w' => e = .returned (.bool true) ∧ At w' D S M n cap 0 (.slice none 0 0) (.slice none 0 0) (crashS s l (clip t)) ∧ Chg (fun c => c = D ∨ c = S ∨ c = M) w w' := by
  have HA : Hid (At w D S M n cap N vo vk s) := h
  have HW : Hid (Wf n N s) := hW
  have HR : Hid (RdN w v l) := hr
  have HL : Hid (∀ k ∈ l, (Lit.int .i64 k).wf = true) := hl
  have HVB : Hid (∀ c, InB v c → c ≠ S ∧ c ≠ M) := hvb
  have HVK : Hid (∀ c, InB vk c → c ≠ S ∧ c ≠ M) := hvk
  have hd := h.d
  rw [hon] at hd
  have HD : Hid (Blk w D 67 (DB true S n cap M vo s.ops vk s.torn)) := hd
  have hn := h.max
  have hp := h.pos
  clear h hW hl hvb hvk hr hd
  obtain ⟨T, HT⟩ : ∃ T, Hid (clip t = T) := ⟨_, rfl⟩
  rw [HT.out]
  go_enter Tryd.func18, Tryd.ntmps18
  go_wp2_with fail
  refine (on_any HD.out hp).mono ?_
  rintro e w1 ⟨rfl, hw⟩; subst hw
  go_wp2_with fail
  refine (settle_any HA.out HW.out v l HR.out HL.out HVB.out HVK.out (fun c hc => ⟨(HA.out.VD hc).2.1, (HA.out.VD hc).2.2⟩)).mono ?_
  rintro e w2 ⟨rfl, N2, a2, f2, u2⟩
  have A2 : Hid _ := a2
  have W2 : Hid _ := f2
  have U2 : Hid _ := u2
  clear a2 f2 u2
  go_wp2_with fail
  refine (tear_any A2.out W2.out t (fun c hc => (HVK.out c hc).1)).mono ?_
  rintro e w3 ⟨rfl, a3, u3⟩
  rw [HT.out] at a3
  have W3 : Hid (Wf n N2 (tearS (settleS s l) T)) := W2.out.tear T
  have HCR : Hid (crashS s l T = { on := false, safe := (tearS (settleS s l) T).safe, f := fun _ => none, order := [], ops := 0, keep := [], torn := 0 }) := (show _ = _ from rfl)
  obtain ⟨r, HRR⟩ : ∃ r, Hid (tearS (settleS s l) T = r) := ⟨_, rfl⟩
  rw [HRR.out] at a3 W3 HCR
  have A3 : Hid (At w3 D S M n cap N2 vo vk r) := a3
  have U3 : Hid (Chg (fun c => c = D ∨ c = S ∨ c = M) w1 w3) := (U2.out.mono (fun _ _ e => e.elim (fun e => .inr (.inl e)) (fun e => .inr (.inr e)))).trans (u3.mono (fun _ _ e => .inr (.inl e)))
  clear a3 u3 A2 W2 U2
  obtain ⟨a, cp, e, h1, h2, h3, h4⟩ := A3.out.od.rd
  have c3 := A3.out.d.cell (j := 3) rfl
  have c3' : w3.cell? ⟨D, 3, none⟩ = some (.slice a (Nats r.order).length cp) := by rw [← e]; exact c3
  rw [Nats_length] at c3' h1
  clear h3 h4 c3
  obtain ⟨L, HLL⟩ : ∃ L, Hid (r.order.length = L) := ⟨_, rfl⟩
  rw [HLL.out] at c3' h1
  have hlm : L ≤ 9223372036854775807 := by unfold maxLen at h2; omega
  go_wp2_with fail
  go_loopg [23] L (fun g x wr => ∃ i : Nat, g + i = L ∧ x = .int .i64 (i : Int) ∧ ∃ Nr, Hid (At wr D S M n cap Nr vo vk { r with f := delS r.f (r.order.take i) }) ∧ Hid (Wf n Nr { r with f := delS r.f (r.order.take i) }) ∧ Hid (Chg (fun c => c = D ∨ c = S ∨ c = M) w1 wr))
  case atStart => exact ⟨0, by omega, rfl, N2, A3, W3, U3⟩
  case round =>
    obtain ⟨i, hgi, rfl, Nr, AR, WR, UR⟩ := hrel
    by_cases hlt : i < L
    · have q1 : (i : Int) < (L : Int) := by omega
      have hlt' : i < r.order.length := by rw [HLL.out]; exact hlt
      obtain ⟨q, HQ⟩ : ∃ q, Hid (r.order[i] = q) := ⟨r.order[i], (show r.order[i] = r.order[i] from rfl)⟩
      have hqn : q < n := WR.out.low q (by rw [← HQ.out]; exact List.getElem_mem hlt')
      obtain ⟨a', cp', e', _, _, _, h4⟩ := AR.out.od.rd
      rw [e] at e'
      simp only [Value.slice.injEq] at e'
      obtain ⟨rfl, -, rfl⟩ := e'
      obtain ⟨b, off, rfl, hlb, hc⟩ := h4 (by rw [Nats_length]; exact Nat.lt_of_le_of_lt (Nat.zero_le _) hlt')
      have cq := hc i (by rw [Nats_length]; exact hlt')
      rw [show (Nats r.order)[i]'(by rw [Nats_length]; exact hlt') = (q : Int) by simp only [Nats, List.getElem_map]; rw [HQ.out]] at cq
      clear hc h4 c3'
      have HDS : Hid (delS r.f (r.order.take (i + 1)) = del (delS r.f (r.order.take i)) q) := (show _ = _ by rw [delS_take _ _ _ hlt', HQ.out])
      obtain ⟨fi, HFI⟩ : ∃ f, Hid (delS r.f (r.order.take i) = f) := ⟨_, rfl⟩
      rw [HFI.out] at AR WR HDS
      have c2 := AR.out.d.cell (j := 2) rfl
      go_wp2_with (first
        | (at_delete; refine wpList_mapdel rfl _ _ rfl M Nr fi rfl AR.out.mp q (i64_of_nat (by omega)) rfl ?_; intro w6 m6 t6; have M6 : Hid _ := m6; have T6 : Hid _ := t6; clear m6 t6)
        | fail)
      go_roundg (gk - 1)
      case measure => omega
      case rel =>
        have hT : Chg (fun c => c = M) wr w6 := Chg.turned T6.out rfl
        have hA := AR.out
        refine ⟨i + 1, by omega, by go_num, (if (fi q).isSome then Nr - 1 else Nr), ?_, ?_, UR.out.trans (hT.mono (fun _ _ e => .inr (.inr e)))⟩
        · show At _ _ _ _ _ _ _ _ _ _
          rw [HDS.out]
          exact ⟨hA.d.chg hT hA.DM, hA.sf.chg hT hA.SM, M6.out, hA.od.chg hT (fun c hc e => (hA.VD hc).2.2 e), hA.kp.chg hT (fun c hc e => (HVK.out c hc).2 e), hA.kw, hA.pos, hA.max⟩
        · show Wf _ _ _
          rw [HDS.out]
          exact WR.out.del q r.safe
    · obtain rfl : i = L := by omega
      have AE : Hid (At wr D S M n cap 0 vo vk { r with f := fun _ => none }) := (show At _ _ _ _ _ _ _ _ _ _ by
        have h1 := AR.out
        have h2 := WR.out
        have h3 : delS r.f (r.order.take i) = fun _ => none := by rw [List.take_of_length_le (by rw [HLL.out]; exact Nat.le_refl _)]; exact delS_none W3.out
        rw [h3] at h1 h2
        have h4 : Nr = 0 := by rw [h2.cnt]; simp
        rw [h4] at h1
        exact h1)
      have z0 := AE.out.d.frozen 0
      have z3 := AE.out.d.frozen 3
      have z4 := AE.out.d.frozen 4
      have z5 := AE.out.d.frozen 5
      have z6 := AE.out.d.frozen 6
      have c0 := AE.out.d.cell (j := 0) rfl
      have c3 := AE.out.d.cell (j := 3) rfl
      have c4 := AE.out.d.cell (j := 4) rfl
      have c5 := AE.out.d.cell (j := 5) rfl
      have c6 := AE.out.d.cell (j := 6) rfl
      clear c3' AR WR A3 W3
      go_wp2_with fail
      go_ret
      obtain ⟨wz, hwz⟩ : ∃ x, x = (((((wr.setCell ⟨D, 0, none⟩ (.bool false)).setCell ⟨D, 3, none⟩ (.slice none 0 0)).setCell ⟨D, 4, none⟩ (.int .i64 0)).setCell ⟨D, 5, none⟩ (.slice none 0 0)).setCell ⟨D, 6, none⟩ (.int .i64 0)) := ⟨_, rfl⟩
      rw [← hwz]
      have hU : Chg (fun c => c = D) wr wz := by
        rw [hwz]
        exact ((((Chg.cellD _ _ _ _).trans (Chg.cellD _ _ _ _)).trans (Chg.cellD _ _ _ _)).trans (Chg.cellD _ _ _ _)).trans (Chg.cellD _ _ _ _)
      have hA := AE.out
      have hB := ((((hA.d.set 0 (.bool false)).set 3 (.slice none 0 0)).set 4 (.int .i64 0)).set 5 (.slice none 0 0)).set 6 (.int .i64 0)
      rw [← hwz] at hB
      refine ⟨rfl, ?_, UR.out.trans (hU.mono (fun _ _ e => .inl e))⟩
      rw [HCR.out]
      exact ⟨hB, hA.sf.chg hU (fun e => hA.DS e.symm), hA.mp.chg hU (fun e => hA.DM e.symm), OwnN_nil _, RdN_nil _, fun k hk => (by cases hk), hA.pos, hA.max⟩
/-- What no look goes into. -/
structure Bx (p : Prop) : Prop where
  out : p
theorem hs_skip {P : Program} {ops : Array Oper} {w : World} {Q : Act → Prop} {a : Act} {o : Oper} {rest : List Oper} (hw : Region.wanted o (yielded ops a.tmps) = false) (h : Bx (wpStill P ops w Q rest (a.put o.dst undef))) : Bx (wpStill P ops w Q (o :: rest) a) :=
  ⟨show wpStill P ops w Q (o :: rest) a by
    refine wpStill_step fun K hK => ?_
    rw [if_neg (by rw [hw]; exact Bool.false_ne_true)]
    exact hK _ h.out⟩
theorem hs_val {P : Program} {ops : Array Oper} {w : World} {Q : Act → Prop} {a : Act} {o : Oper} {rest : List Oper} (v : Value) (hw : Region.wanted o (yielded ops a.tmps) = true) (hr : (execOp a.eval o).run P w = .ok (.value v) w) (h : Bx (wpStill P ops w Q rest (a.put o.dst v))) : Bx (wpStill P ops w Q (o :: rest) a) :=
  ⟨show wpStill P ops w Q (o :: rest) a by
    refine wpStill_step fun K hK => ?_
    rw [if_pos hw]
    unfold Oper.still
    rw [hr, Oper.stillUpon_value]
    exact hK _ h.out⟩
theorem hs_nil {P : Program} {ops : Array Oper} {w : World} {Q : Act → Prop} {a : Act} (h : Bx (Q a)) : Bx (wpStill P ops w Q [] a) := ⟨wpStill_nil h.out⟩
theorem wl_val {P : Program} {ops : Array Oper} {w : World} {Q : Exit → Act → World → Prop} {a : Act} {o : Oper} {rest : List Oper} (v : Value) (hw : Region.wanted o (yielded ops a.tmps) = true) (hr : (execOp a.eval o).run P w = .ok (.value v) w) (h : Bx (wpList P ops Q rest (a.put o.dst v) w)) : Bx (wpList P ops Q (o :: rest) a w) :=
  ⟨wpList_step fun K hK => by
    rw [if_pos hw]
    unfold Oper.wp
    rw [hr, Oper.upon_value]
    exact hK _ _ h.out⟩
theorem wl_call {P : Program} {ops : Array Oper} {w : World} {Q : Exit → Act → World → Prop} {a : Act} {o : Oper} {rest : List Oper} (f : FuncId) (args : Array Value) (hw : Region.wanted o (yielded ops a.tmps) = true) (hr : (execOp a.eval o).run P w = .ok (.enter f args) w)
    (hC : Calls P f args w fun e w' => ∃ v, e = .returned v ∧ Bx (wpList P ops Q rest (a.put o.dst v) w')) : Bx (wpList P ops Q (o :: rest) a w) :=
  ⟨wpList_step fun K hK => by
    rw [if_pos hw]
    unfold Oper.wp
    rw [hr]
    refine hC.mono ?_
    rintro e w' ⟨v, rfl, hv⟩
    exact hK _ _ hv.out⟩
theorem wl_nil {P : Program} {ops : Array Oper} {w : World} {Q : Exit → Act → World → Prop} {a : Act} (h : Q .normal a w) : Bx (wpList P ops Q [] a w) := ⟨wpList_nil h⟩
/-- An act that would do something: what is left. -/
def strikeS (s : St) : St := if s.ops = 1 then crashS { s with ops := 0 } s.keep (clip s.torn) else { s with ops := s.ops - 1 }
set_option maxHeartbeats 2000000 in
set_option maxRecDepth 100000 in
theorem fails_none {w : World} {D S M n cap : Nat} {on : Bool} {vo vk : Value} {torn : Int} (hB : Blk w D 67 (DB on S n cap M vo 0 vk torn)) :
    Calls Tryd.prog 48 #[.pointer (some ⟨D, 0, none⟩)] w fun e w' => e = .returned (.bool false) ∧ w' = w := by
  have c4 := hB.cell (j := 4) rfl
  clear hB
  go_enter Tryd.func48, Tryd.ntmps48
  go_wp2
  go_ret
  exact ⟨rfl, rfl⟩
theorem Wf.ops {n N : Nat} {s : St} (h : Wf n N s) (k : Nat) : Wf n N { s with ops := k } := ⟨h.nodup, h.low, h.keys, h.cnt⟩
set_option maxHeartbeats 2000000 in
set_option maxRecDepth 100000 in
theorem fails_more {w : World} {D S M n cap N : Nat} {vo vk : Value} {s : St} (h : At w D S M n cap N vo vk s) (k : Nat) (hk : s.ops = k + 2) (hk2 : k + 2 ≤ 9223372036854775807) (hvk : ∀ c, InB vk c → c ≠ D) :
    Calls Tryd.prog 48 #[.pointer (some ⟨D, 0, none⟩)] w fun e w' => e = .returned (.bool false) ∧ At w' D S M n cap N vo vk { s with ops := k + 1 } ∧ Chg (fun c => c = D) w w' := by
  have HA : Hid (At w D S M n cap N vo vk s) := h
  have HVK : Hid (∀ c, InB vk c → c ≠ D) := hvk
  have c4 := h.d.cell (j := 4) rfl
  have z4 := h.d.frozen 4
  have c4' : w.cell? ⟨D, 4, none⟩ = some (.int .i64 ((k : Int) + 2)) := by rw [c4, hk]; rfl
  clear h c4 hvk
  have q1 : (((k : Int) + 2) == 0) = false := by simp; omega
  go_enter Tryd.func48, Tryd.ntmps48
  go_upto_region 4 with fail
  have e1 : (k : Int) + 2 - 1 = (k : Int) + 1 := by omega
  rw [e1]
  obtain ⟨w1, hw1⟩ : ∃ x, x = w.setCell ⟨D, 4, none⟩ (.int .i64 ((k : Int) + 1)) := ⟨_, rfl⟩
  rw [← hw1]
  have hU : Chg (fun c => c = D) w w1 := by rw [hw1]; exact Chg.cellD _ _ _ _
  have A1 : Hid (At w1 D S M n cap N vo vk { s with ops := k + 1 }) := (show At _ _ _ _ _ _ _ _ _ _ by
    have hA := HA.out
    have hB := hA.d.set 4 (.int .i64 ((k : Int) + 1))
    rw [← hw1] at hB
    exact ⟨hB, hA.sf.chg hU (fun e => hA.DS e.symm), hA.mp.chg hU (fun e => hA.DM e.symm), hA.od.chg hU (fun c hc e => (hA.VD hc).1 e), hA.kp.chg hU (fun c hc e => HVK.out c hc e), hA.kw, hA.pos, hA.max⟩)
  have U1 : Hid (Chg (fun c => c = D) w w1) := hU
  clear hw1 c4' z4 hU
  have q2 : (((k : Int) + 1) == 0) = false := by simp; omega
  have c4 := A1.out.d.cell (j := 4) rfl
  go_quiet (fail)
  go_wp2
  go_ret
  exact ⟨rfl, A1.out.kept (below_drewN _ _ _), U1.out.trans (Chg.of_below (below_drewN _ _ _))⟩
set_option maxHeartbeats 2000000 in
set_option maxRecDepth 100000 in
theorem fails_now {w : World} {D S M n cap N : Nat} {vo vk : Value} {s : St} (h : At w D S M n cap N vo vk s) (hW : Wf n N s) (hon : s.on = true) (hk : s.ops = 1) (hvk : ∀ c, InB vk c → c ≠ D ∧ c ≠ S ∧ c ≠ M) :
    Calls Tryd.prog 48 #[.pointer (some ⟨D, 0, none⟩)] w fun e w' => e = .returned (.bool true) ∧ At w' D S M n cap 0 (.slice none 0 0) (.slice none 0 0) (crashS { s with ops := 0 } s.keep (clip s.torn)) ∧ Chg (fun c => c = D ∨ c = S ∨ c = M) w w' := by
  have HA : Hid (At w D S M n cap N vo vk s) := h
  have HVK : Hid (∀ c, InB vk c → c ≠ D ∧ c ≠ S ∧ c ≠ M) := hvk
  have HW : Hid (Wf n N s) := hW
  have c4 := h.d.cell (j := 4) rfl
  have z4 := h.d.frozen 4
  have c4' : w.cell? ⟨D, 4, none⟩ = some (.int .i64 1) := by rw [c4, hk]; rfl
  clear h c4 hvk hW
  go_enter Tryd.func48, Tryd.ntmps48
  go_upto_region 4 with fail
  obtain ⟨w1, hw1⟩ : ∃ x, x = w.setCell ⟨D, 4, none⟩ (.int .i64 0) := ⟨_, rfl⟩
  rw [← hw1]
  have hU : Chg (fun c => c = D) w w1 := by rw [hw1]; exact Chg.cellD _ _ _ _
  have A1 : Hid (At w1 D S M n cap N vo vk { s with ops := 0 }) := (show At _ _ _ _ _ _ _ _ _ _ by
    have hA := HA.out
    have hB := hA.d.set 4 (.int .i64 0)
    rw [← hw1] at hB
    exact ⟨hB, hA.sf.chg hU (fun e => hA.DS e.symm), hA.mp.chg hU (fun e => hA.DM e.symm), hA.od.chg hU (fun c hc e => (hA.VD hc).1 e), hA.kp.chg hU (fun c hc e => (HVK.out c hc).1 e), hA.kw, hA.pos, hA.max⟩)
  have U1 : Hid (Chg (fun c => c = D ∨ c = S ∨ c = M) w w1) := hU.mono (fun _ _ e => .inl e)
  clear hw1 c4' z4 hU
  have c4 : w1.drew.cell? ⟨D, 4, none⟩ = some (.int .i64 0) := A1.out.drew.d.cell (j := 4) rfl
  have c5 : w1.drew.cell? ⟨D, 5, none⟩ = some vk := A1.out.drew.d.cell (j := 5) rfl
  have c6 : w1.drew.cell? ⟨D, 6, none⟩ = some (.int .i64 s.torn) := A1.out.drew.d.cell (j := 6) rfl
  refine wp_region_still_tail 18 Tryd.mixed (by kernel_rfl) ?_
  simp only [List.take_succ_cons, List.take_zero, List.drop_succ_cons, List.drop_zero]
  iterate 6 still_step
  refine Bx.out (hs_val (.bool true) rfl rfl ?_)
  simp only [Act.put, List.setIfInBounds_toArray, List.set_cons_succ, List.set_cons_zero]
  refine hs_val (.pointer (some ⟨D, 0, none⟩)) (by kernel_rfl) rfl ?_
  simp only [Act.put, List.setIfInBounds_toArray, List.set_cons_succ, List.set_cons_zero]
  refine hs_val (.pointer (some ⟨D, 0, none⟩)) (by kernel_rfl) rfl ?_
  simp only [Act.put, List.setIfInBounds_toArray, List.set_cons_succ, List.set_cons_zero]
  refine hs_val (.pointer (some ⟨D, 0, none⟩)) (by kernel_rfl) (by simp only [execOp]; go_simp) ?_
  simp only [Act.put, List.setIfInBounds_toArray, List.set_cons_succ, List.set_cons_zero]
  refine hs_val (.pointer (some ⟨D, 4, none⟩)) (by kernel_rfl) (by simp only [execOp]; go_simp) ?_
  simp only [Act.put, List.setIfInBounds_toArray, List.set_cons_succ, List.set_cons_zero]
  refine hs_val (.pointer (some ⟨D, 5, none⟩)) (by kernel_rfl) (by simp only [execOp]; go_simp) ?_
  simp only [Act.put, List.setIfInBounds_toArray, List.set_cons_succ, List.set_cons_zero]
  refine hs_val vk (by kernel_rfl) (by simp only [execOp]; go_simp) ?_
  simp only [Act.put, List.setIfInBounds_toArray, List.set_cons_succ, List.set_cons_zero]
  refine hs_val (.pointer (some ⟨D, 0, none⟩)) (by kernel_rfl) rfl ?_
  simp only [Act.put, List.setIfInBounds_toArray, List.set_cons_succ, List.set_cons_zero]
  refine hs_val (.pointer (some ⟨D, 0, none⟩)) (by kernel_rfl) (by simp only [execOp]; go_simp) ?_
  simp only [Act.put, List.setIfInBounds_toArray, List.set_cons_succ, List.set_cons_zero]
  refine hs_val (.pointer (some ⟨D, 4, none⟩)) (by kernel_rfl) (by simp only [execOp]; go_simp) ?_
  simp only [Act.put, List.setIfInBounds_toArray, List.set_cons_succ, List.set_cons_zero]
  refine hs_val (.pointer (some ⟨D, 6, none⟩)) (by kernel_rfl) (by simp only [execOp]; go_simp) ?_
  simp only [Act.put, List.setIfInBounds_toArray, List.set_cons_succ, List.set_cons_zero]
  refine hs_val (.int .i64 s.torn) (by kernel_rfl) (by simp only [execOp]; go_simp) ?_
  simp only [Act.put, List.setIfInBounds_toArray, List.set_cons_succ, List.set_cons_zero]
  refine hs_nil ?_
  refine wl_call 18 #[.pointer (some ⟨D, 0, none⟩), vk, .int .i64 s.torn] (by kernel_rfl) ((run_enter 18 _ _ rfl (by kernel_rfl)).trans (by kernel_rfl)) ?_
  refine (crash_on (s := { s with ops := 0 }) A1.out.drew (HW.out.ops 0) hon vk s.keep s.torn A1.out.drew.kp A1.out.kw (fun c hc => (HVK.out c hc).2) (fun c hc => (HVK.out c hc).2)).mono ?_
  rintro e w2 ⟨rfl, a2, u2⟩
  refine ⟨_, rfl, ?_⟩
  refine wl_val (.bool true) (by kernel_rfl) rfl ?_
  simp only [Act.put, List.setIfInBounds_toArray, List.set_cons_succ, List.set_cons_zero]
  refine wl_val (.bool true) (by kernel_rfl) rfl ?_
  simp only [Act.put, List.setIfInBounds_toArray, List.set_cons_succ, List.set_cons_zero]
  refine wl_nil ?_
  have A2 : Hid _ := a2
  have U2 : Hid _ := u2
  clear a2 u2
  go_wp2
  go_ret
  exact ⟨rfl, A2.out, (U1.out.trans (Chg.drew _ _)).trans U2.out⟩
end Go.Proofs.YtgdhjgfoalianaaDoor

/-
  What package disk keeps of a disk, held against a plain disk.
-/
namespace Go.Proofs.YtgdhjgfoalianaaDoor
open Go.RowKit
open Pd (spl spl_length spl_get clip clip_le DM)
/-- Sector k of bytes. -/
def sec (l : List UInt8) (k : Nat) : List UInt8 := (l.drop (32 * k)).take 32
theorem sec_get (l : List UInt8) (k j : Nat) (hj : j < 32) : (sec l k)[j]? = l[32 * k + j]? := by
  unfold sec
  rw [List.getElem?_take_of_lt hj, List.getElem?_drop]
theorem sec_len {l : List UInt8} {n k : Nat} (h : l.length = 32 * n) (hk : k < n) : (sec l k).length = 32 := by
  unfold sec
  rw [List.length_take, List.length_drop]
  omega
/-- The same disk. -/
structure Rel (n : Nat) (s : St) (m : DM) : Prop where
  on : s.on = !m.off
  safe : s.safe = m.safe
  order : s.order = m.dirty
  f : ∀ k : Nat, s.f k = if k ∈ m.dirty then some (sec m.now k) else none
  ops : s.ops = m.armed
  arms : m.armed ≠ 0 → s.keep = m.keep ∧ s.torn = m.torn
  ok : Pd.Ok n m
  dark : Pd.Dark m
  small : m.armed ≤ 9223372036854775807
theorem settle1_f (s : St) (q k : Int) : (settle1 s q).f k = if k = q then none else s.f k := by
  unfold settle1
  cases hf : s.f q with
  | some l => rfl
  | none =>
    by_cases e : k = q
    · rw [if_pos e, e]; exact hf
    · rw [if_neg e]
theorem settleS_f (k : Int) : ∀ (l : List Int) (s : St), (settleS s l).f k = if k ∈ l then none else s.f k
  | [], s => by simp [settleS]
  | q :: r, s => by
    rw [settleS, settleS_f k r, settle1_f]
    by_cases h1 : k ∈ r
    · rw [if_pos h1, if_pos (by simp [h1])]
    · rw [if_neg h1]
      by_cases h2 : k = q
      · rw [if_pos h2, if_pos (by simp [h2])]
      · rw [if_neg h2, if_neg (by simp [h1, h2])]
/-- Each key is a sector, each element one. -/
def Full (n : Nat) (s : St) : Prop := s.safe.length = 32 * n ∧ ∀ (k : Int) l, s.f k = some l → ∃ j : Nat, k = (j : Int) ∧ j < n ∧ l.length = 32
theorem Full.settle1 {n : Nat} {s : St} (h : Full n s) (q : Int) : Full n (settle1 s q) := by
  refine ⟨?_, fun k l hk => ?_⟩
  · unfold Go.Proofs.YtgdhjgfoalianaaDoor.settle1
    cases hf : s.f q with
    | some l =>
      obtain ⟨j, rfl, hj, hl⟩ := h.2 q l hf
      have := h.1
      show (spl s.safe (32 * (j : Int).toNat) l).length = _
      rw [spl_length (by simp; omega)]
      exact h.1
    | none => exact h.1
  · rw [settle1_f] at hk
    by_cases e : k = q
    · rw [if_pos e] at hk; cases hk
    · rw [if_neg e] at hk; exact h.2 k l hk
theorem settle1_get {n : Nat} {s : St} (h : Full n s) (q : Int) (j : Nat) : (settle1 s q).safe[j]? = if ((j / 32 : Nat) : Int) = q ∧ (s.f q).isSome = true then ((s.f q).getD [])[j % 32]? else s.safe[j]? := by
  unfold settle1
  cases hf : s.f q with
  | some l =>
    obtain ⟨i, rfl, hi, hl⟩ := h.2 q l hf
    have hs := h.1
    show (spl s.safe (32 * (i : Int).toNat) l)[j]? = _
    rw [spl_get (by simp; omega)]
    simp only [Int.toNat_natCast, Option.isSome_some, and_true, Option.getD_some]
    by_cases e : j / 32 = i
    · rw [if_pos (by omega), if_pos (by omega)]
      congr 1
      omega
    · rw [if_neg (by omega), if_neg (by omega)]
  | none => simp
theorem settleS_get {n : Nat} (j : Nat) : ∀ (l : List Int) (s : St), Full n s → (settleS s l).safe[j]? = if ((j / 32 : Nat) : Int) ∈ l ∧ (s.f (j / 32 : Nat)).isSome = true then ((s.f (j / 32 : Nat)).getD [])[j % 32]? else s.safe[j]?
  | [], s, _ => by simp [settleS]
  | q :: r, s, h => by
    rw [settleS, settleS_get j r _ (h.settle1 q), settle1_f, settle1_get h]
    by_cases e : ((j / 32 : Nat) : Int) = q
    · subst e
      rw [if_pos rfl]
      simp
    · rw [if_neg e]
      simp only [List.mem_cons, e, false_or, false_and, if_false]
theorem Rel.full {n : Nat} {s : St} {m : DM} {N : Nat} (h : Rel n s m) (hW : Wf n N s) : Full n s := by
  refine ⟨by rw [h.safe]; exact h.ok.safe, fun k l hk => ?_⟩
  obtain ⟨j, hj, rfl⟩ := hW.keys k (by rw [hk]; rfl)
  rw [h.f j] at hk
  have hjn := hW.low j hj
  by_cases hd : j ∈ m.dirty
  · rw [if_pos hd] at hk
    cases hk
    exact ⟨j, rfl, hjn, sec_len h.ok.now hjn⟩
  · rw [if_neg hd] at hk; cases hk
theorem settleS_full {n : Nat} : ∀ (l : List Int) (s : St), Full n s → Full n (settleS s l)
  | [], _, h => h
  | q :: r, _, h => settleS_full r _ (h.settle1 q)
/-- A loss of power. -/
theorem Rel.safe_crash {n N : Nat} {s : St} {m : DM} (h : Rel n s m) (hW : Wf n N s) (keep : List Int) (t : Int) : (tearS (settleS s keep) (clip t)).safe = (Pd.crash m keep t).now := by
  apply List.ext_getElem?
  intro j
  have hF := h.full hW
  have hS := settleS_full keep s hF
  have horder := settleS_order keep s
  have hsome : ∀ k : Nat, (s.f k).isSome = decide (k ∈ m.dirty) := fun k => by
    rw [h.f k]
    by_cases hd : k ∈ m.dirty
    · simp [hd]
    · simp [hd]
  have hfind : (settleS s keep).order.find? (fun k : Nat => ((settleS s keep).f k).isSome) = Pd.cut1 keep m.dirty := by
    rw [horder, h.order]
    have e : ∀ l : List Nat, (∀ k ∈ l, k ∈ m.dirty) → l.find? (fun k : Nat => ((settleS s keep).f k).isSome) = Pd.cut1 keep l := by
      intro l
      induction l with
      | nil => intro _; rfl
      | cons x r ih =>
        intro hl
        have hx := hl x (by simp)
        unfold Pd.cut1
        by_cases hk : (x : Int) ∈ keep
        · rw [if_pos hk, ← ih (fun k hk => hl k (by simp [hk])), List.find?_cons_of_neg]
          rw [settleS_f, if_pos hk]; simp
        · rw [if_neg hk, List.find?_cons_of_pos]
          rw [settleS_f, if_neg hk, hsome]; simp [hx]
    exact e m.dirty (fun k hk => hk)
  have hbase : (settleS s keep).safe[j]? = if ((j / 32 : Nat) : Int) ∈ keep ∧ j / 32 ∈ m.dirty then m.now[j]? else m.safe[j]? := by
    rw [settleS_get j keep s hF, hsome, h.safe]
    by_cases hd : j / 32 ∈ m.dirty
    · simp only [hd, decide_true, and_true]
      by_cases hk : ((j / 32 : Nat) : Int) ∈ keep
      · rw [if_pos hk, if_pos hk, h.f (j / 32), if_pos hd, Option.getD_some, sec_get _ _ _ (by omega)]
        congr 1
        omega
      · rw [if_neg hk, if_neg hk]
    · simp [hd]
  by_cases hk : ((j / 32 : Nat) : Int) ∈ keep
  · rw [Pd.crash_kept h.ok t hk]
    have hne : ∀ k, Pd.cut1 keep m.dirty = some k → k ≠ j / 32 := by
      intro k hc e
      subst e
      rw [← hfind] at hc
      have := List.find?_some hc
      rw [settleS_f, if_pos hk] at this
      cases this
    have e1 : (tearS (settleS s keep) (clip t)).safe[j]? = (settleS s keep).safe[j]? := by
      unfold tearS
      rw [hfind]
      cases hc : Pd.cut1 keep m.dirty with
      | none => rfl
      | some k =>
        have hne := hne k hc
        simp only
        have hk2 : ∃ l, (settleS s keep).f k = some l := by
          rw [← hfind] at hc
          have := List.find?_some hc
          exact Option.isSome_iff_exists.1 this
        obtain ⟨l, hl⟩ := hk2
        obtain ⟨k', e, hk', hll⟩ := hS.2 k l hl
        have : k = k' := by omega
        subst this
        have := hS.1
        rw [hl, Option.getD_some, spl_get (by rw [List.length_take]; omega), if_neg (by rw [List.length_take]; omega)]
    rw [e1, hbase]
    by_cases hd : j / 32 ∈ m.dirty
    · rw [if_pos ⟨hk, hd⟩]
    · rw [if_neg (fun e => hd e.2)]
      exact (h.ok.alike j hd).symm
  · rw [Pd.crash_cut h.ok t hk]
    have hb : (settleS s keep).safe[j]? = m.safe[j]? := by rw [hbase, if_neg (fun e => hk e.1)]
    unfold tearS
    rw [hfind]
    cases hc : Pd.cut1 keep m.dirty with
    | none =>
      simp only
      rw [hb, if_neg (by simp)]
    | some k =>
      simp only
      have hks : ((settleS s keep).f k).isSome = true := by
        have hc' := hc
        rw [← hfind] at hc'
        have h0 := List.find?_some hc'
        exact h0
      obtain ⟨l, hl⟩ := Option.isSome_iff_exists.1 hks
      obtain ⟨k', e, hk', hll⟩ := hS.2 k l hl
      have : k = k' := by omega
      subst this
      have hSl := hS.1
      have hcl := clip_le t
      rw [hl, Option.getD_some, spl_get (by rw [List.length_take]; omega)]
      have hlt : (l.take (clip t)).length = clip t := by rw [List.length_take]; omega
      rw [hlt]
      by_cases hj : 32 * k ≤ j ∧ j < 32 * k + clip t
      · rw [if_pos hj, if_pos ⟨by congr 1; omega, by omega⟩]
        have hlk : l = sec m.now k := by
          rw [settleS_f] at hl
          by_cases hkk : (k : Int) ∈ keep
          · rw [if_pos hkk] at hl; cases hl
          · rw [if_neg hkk, h.f k] at hl
            by_cases hd : k ∈ m.dirty
            · rw [if_pos hd] at hl; cases hl; rfl
            · rw [if_neg hd] at hl; cases hl
        rw [List.getElem?_take_of_lt (by omega), hlk, sec_get _ _ _ (by omega)]
        congr 1
        omega
      · rw [if_neg hj, hb, if_neg]
        rintro ⟨e1, e2⟩
        cases e1
        omega
theorem Rel.crash {n N : Nat} {s : St} {m : DM} (h : Rel n s m) (hW : Wf n N s) (keep : List Int) (t : Int) : Rel n (crashS s keep (clip t)) (Pd.crash m keep t) :=
  ⟨rfl, h.safe_crash hW keep t, rfl, fun k => (if_neg (by simp [Pd.crash])).symm, rfl, fun e => absurd rfl e, h.ok.crash keep t, fun _ => rfl, by simp [Pd.crash]⟩
theorem Wf.crash {n : Nat} (s : St) (keep : List Int) (t : Nat) : Wf n 0 (crashS s keep t) := ⟨List.nodup_nil, fun k hk => (by cases hk), fun k hk => (by cases hk), rfl⟩
/-- An act that would do something. -/
theorem spl_spl {l b x : List UInt8} {p : Nat} (h : p + b.length + x.length ≤ l.length) : spl (spl l p b) (p + b.length) x = spl l p (b ++ x) := by
  apply List.ext_getElem?
  intro j
  have h1 : p + b.length ≤ l.length := by omega
  have h2 := spl_length h1
  rw [spl_get (by omega), spl_get h1, spl_get (by simp; omega), List.length_append]
  by_cases e1 : p + b.length ≤ j ∧ j < p + b.length + x.length
  · rw [if_pos e1, if_pos (by omega), List.getElem?_append_right (by omega)]
    congr 1
    omega
  · rw [if_neg e1]
    by_cases e2 : p ≤ j ∧ j < p + b.length
    · rw [if_pos e2, if_pos (by omega), List.getElem?_append_left (by omega)]
    · rw [if_neg e2, if_neg (by omega)]
theorem adds_again (d : List Nat) (k : Nat) : Pd.adds (Pd.adds d k) k = Pd.adds d k := by
  have : k ∈ Pd.adds d k := Pd.mem_adds.2 (.inr rfl)
  show (if k ∈ Pd.adds d k then Pd.adds d k else _) = _
  rw [if_pos this]
theorem touch_more (d : List Nat) (p a k : Nat) : ∀ c, 0 < c → (∀ i, i < c → (p + a + i) / 32 = k) → Pd.touch d p (a + c) = Pd.adds (Pd.touch d p a) k
  | 0, h, _ => by omega
  | 1, _, h => by
    show Pd.adds (Pd.touch d p a) ((p + a) / 32) = _
    rw [show (p + a) / 32 = k from h 0 (by omega)]
  | c + 2, _, h => by
    show Pd.adds (Pd.touch d p (a + (c + 1))) ((p + (a + (c + 1))) / 32) = _
    rw [touch_more d p a k (c + 1) (by omega) (fun i hi => h i (by omega)), show (p + (a + (c + 1))) / 32 = k by have := h (c + 1) (by omega); rw [← this]; congr 1; omega, adds_again]
/-- A plain disk as bytes are laid. -/
def laid (m : DM) (p : Nat) (b : List UInt8) : DM := { m with now := spl m.now p b, dirty := Pd.touch m.dirty p b.length }
theorem laid_nil (m : DM) (p : Nat) : laid m p [] = m := by
  unfold laid
  rw [Pd.spl_nil]
  rfl
theorem laid_more {m : DM} {n p : Nat} {b x : List UInt8} (h : m.now.length = 32 * n) (hp : p + b.length + x.length ≤ 32 * n) (hx : 0 < x.length) (hk : (p + b.length) % 32 + x.length ≤ 32) :
    laid m p (b ++ x) = { laid m p b with now := spl (laid m p b).now (p + b.length) x, dirty := Pd.adds (laid m p b).dirty ((p + b.length) / 32) } := by
  unfold laid
  simp only
  rw [spl_spl (by omega), List.length_append, touch_more m.dirty p b.length ((p + b.length) / 32) x.length hx (fun i hi => by omega)]
theorem ok_laid {m : DM} {n p : Nat} {b : List UInt8} (h : Pd.Ok n m) (hp : p + b.length ≤ 32 * n) : Pd.Ok n (laid m p b) := by
  have h1 : p + b.length ≤ m.now.length := by rw [h.now]; exact hp
  refine ⟨(spl_length h1).trans h.now, h.safe, Pd.touch_nodup h.nodup _, fun k hk => ?_, fun j hj => ?_⟩
  · rcases Pd.mem_touch.1 hk with hk | ⟨i, hi, rfl⟩
    · exact h.low k hk
    · omega
  · have hj' : j / 32 ∉ Pd.touch m.dirty p b.length := hj
    rw [Pd.mem_touch] at hj'
    show (spl m.now p b)[j]? = m.safe[j]?
    rw [spl_get h1, if_neg, h.alike j (fun e => hj' (.inl e))]
    intro e
    exact hj' (.inr ⟨j - p, by omega, by congr 1; omega⟩)
/-- One piece laid. -/
theorem Rel.lay {n N : Nat} {s : St} {m : DM} (h : Rel n s m) (hW : Wf n N s) (hon : m.off = false) (k o : Nat) (X : List UInt8) (hk : k < n) (ho : o + X.length ≤ 32) :
    Rel n (layS s k o X) { m with now := spl m.now (32 * k + o) X, dirty := Pd.adds m.dirty k } ∧ Wf n (cntS s.f k N) (layS s k o X) := by
  have hnow := h.ok.now
  have hlast : lastOf s k = sec m.now k := by
    unfold lastOf
    rw [h.f k]
    by_cases hd : k ∈ m.dirty
    · rw [if_pos hd]
    · rw [if_neg hd]
      show (s.safe.drop (32 * k)).take 32 = sec m.now k
      rw [h.safe]
      apply List.ext_getElem?
      intro j
      by_cases hj : j < 32
      · rw [sec_get _ _ _ hj, List.getElem?_take_of_lt hj, List.getElem?_drop]
        exact (h.ok.alike _ (by rw [show (32 * k + j) / 32 = k by omega]; exact hd)).symm
      · rw [List.getElem?_eq_none (by rw [List.length_take]; omega), List.getElem?_eq_none (by rw [sec_len hnow hk]; omega)]
  have hsome : (s.f k).isSome = decide (k ∈ m.dirty) := by
    rw [h.f k]
    by_cases hd : k ∈ m.dirty <;> simp [hd]
  have horder : (layS s k o X).order = Pd.adds m.dirty k := by
    show (if (s.f k).isSome then s.order else s.order ++ [k]) = _
    rw [hsome, h.order]
    unfold Pd.adds
    by_cases hd : k ∈ m.dirty <;> simp [hd]
  have hsec : ∀ j : Nat, sec (spl m.now (32 * k + o) X) j = if j = k then spl (sec m.now k) o X else sec m.now j := by
    intro j
    apply List.ext_getElem?
    intro i
    have hsp : (spl m.now (32 * k + o) X).length = 32 * n := by rw [spl_length (by omega)]; exact hnow
    by_cases hi : i < 32
    · rw [sec_get _ _ _ hi, spl_get (by omega)]
      by_cases e : j = k
      · subst e
        rw [if_pos rfl, spl_get (by rw [sec_len hnow hk]; exact ho)]
        by_cases e2 : o ≤ i ∧ i < o + X.length
        · rw [if_pos (by omega), if_pos e2]; congr 1; omega
        · rw [if_neg (by omega), if_neg e2, sec_get _ _ _ hi]
      · rw [if_neg e, if_neg (by omega), sec_get _ _ _ hi]
    · have h1 : (sec (spl m.now (32 * k + o) X) j).length ≤ 32 := by unfold sec; rw [List.length_take]; omega
      rw [List.getElem?_eq_none (by omega)]
      by_cases e : j = k
      · rw [if_pos e, List.getElem?_eq_none (by rw [spl_length (by rw [sec_len hnow hk]; exact ho), sec_len hnow hk]; omega)]
      · rw [if_neg e, List.getElem?_eq_none (by unfold sec; rw [List.length_take]; omega)]
  have hf : ∀ j : Nat, (layS s k o X).f j = if j ∈ Pd.adds m.dirty k then some (sec (spl m.now (32 * k + o) X) j) else none := by
    intro j
    show put s.f k (spl (lastOf s k) o X) j = _
    unfold put
    rw [hsec j, hlast]
    by_cases e : j = k
    · subst e
      rw [if_pos rfl, if_pos (Pd.mem_adds.2 (.inr rfl)), if_pos rfl]
    · rw [if_neg (by omega), h.f j, if_neg e]
      by_cases hd : j ∈ m.dirty
      · rw [if_pos hd, if_pos (Pd.mem_adds.2 (.inl hd))]
      · rw [if_neg hd, if_neg (fun e' => (Pd.mem_adds.1 e').elim hd e)]
  refine ⟨⟨h.on, h.safe, horder, hf, h.ops, h.arms, ?_, fun e => ?_, h.small⟩, ?_⟩
  · refine ⟨(spl_length (by omega)).trans hnow, h.ok.safe, Pd.adds_nodup h.ok.nodup, fun j hj => ?_, fun j hj => ?_⟩
    · rcases Pd.mem_adds.1 hj with hj | rfl
      · exact h.ok.low j hj
      · exact hk
    · have hj' : j / 32 ∉ Pd.adds m.dirty k := hj
      rw [Pd.mem_adds] at hj'
      show (spl m.now (32 * k + o) X)[j]? = m.safe[j]?
      rw [spl_get (by omega), if_neg (fun e => hj' (.inr (by omega))), h.ok.alike j (fun e => hj' (.inl e))]
  · have e' : m.off = true := e
    rw [hon] at e'
    cases e'
  · have hnd : (layS s k o X).order.Nodup := by rw [horder]; exact Pd.adds_nodup h.ok.nodup
    refine ⟨hnd, fun j hj => ?_, fun j hj => ?_, ?_⟩
    · rw [horder] at hj
      rcases Pd.mem_adds.1 hj with hj | rfl
      · exact h.ok.low j hj
      · exact hk
    · have hj' : (put s.f k (spl (lastOf s k) o X) j).isSome = true := hj
      unfold put at hj'
      rw [horder]
      by_cases e : j = (k : Int)
      · exact ⟨k, Pd.mem_adds.2 (.inr rfl), e⟩
      · rw [if_neg e] at hj'
        obtain ⟨i, hi, e⟩ := hW.keys j hj'
        rw [h.order] at hi
        exact ⟨i, Pd.mem_adds.2 (.inl hi), e⟩
    · have hall : ((layS s k o X).order.filter fun j : Nat => ((layS s k o X).f j).isSome) = (layS s k o X).order := by
        rw [List.filter_eq_self]
        intro j hj
        rw [horder] at hj
        rw [hf j, if_pos hj]; rfl
      have hall0 : (s.order.filter fun j : Nat => (s.f j).isSome) = s.order := by
        rw [List.filter_eq_self]
        intro j hj
        rw [h.order] at hj
        rw [h.f j, if_pos hj]; rfl
      have hc := hW.cnt
      rw [hall0] at hc
      rw [hall]
      show cntS s.f k N = (if (s.f k).isSome then s.order else s.order ++ [k]).length
      unfold cntS
      cases (s.f k).isSome <;> simp [hc]
theorem mem_Nats {k : Nat} {l : List Nat} : (k : Int) ∈ Nats l ↔ k ∈ l := by
  unfold Nats
  rw [List.mem_map]
  constructor
  · rintro ⟨j, hj, e⟩
    have : j = k := by omega
    exact this ▸ hj
  · exact fun h => ⟨k, h, rfl⟩
/-- All that is dirty made safe. -/
theorem Rel.sync {n N N' : Nat} {s : St} {m : DM} (h : Rel n s m) (hW : Wf n N s) (hW' : Wf n N' (settleS s (Nats s.order))) :
    Rel n { settleS s (Nats s.order) with order := [] } { m with safe := m.now, dirty := [] } ∧ Wf n N' { settleS s (Nats s.order) with order := [] } ∧ N' = 0 := by
  have hF := h.full hW
  have hmem : ∀ k : Nat, (k : Int) ∈ Nats s.order ↔ k ∈ m.dirty := fun k => by
    rw [← h.order]
    exact mem_Nats
  have hnone : ∀ k : Int, (settleS s (Nats s.order)).f k = none := fun k => by
    rw [settleS_f]
    by_cases e : k ∈ Nats s.order
    · rw [if_pos e]
    · rw [if_neg e]
      cases hf : s.f k with
      | none => rfl
      | some l =>
        obtain ⟨j, hj, rfl⟩ := hW.keys k (by rw [hf]; rfl)
        exact absurd (mem_Nats.2 hj) e
  have hsafe : (settleS s (Nats s.order)).safe = m.now := by
    apply List.ext_getElem?
    intro j
    rw [settleS_get j _ s hF, h.f (j / 32), h.safe]
    by_cases hd : j / 32 ∈ m.dirty
    · rw [if_pos hd, if_pos ⟨(hmem _).2 hd, rfl⟩, Option.getD_some, sec_get _ _ _ (by omega)]
      congr 1
      omega
    · rw [if_neg (fun e => hd ((hmem _).1 e.1))]
      exact (h.ok.alike j hd).symm
  obtain ⟨e1, e2, e3, e4⟩ := settleS_same (Nats s.order) s
  have hN : N' = 0 := by
    rw [hW'.cnt]
    simp [hnone]
  refine ⟨⟨e1.trans h.on, hsafe, rfl, fun k => ?_, e2.trans h.ops, fun e => ⟨e3.trans (h.arms e).1, e4.trans (h.arms e).2⟩, ⟨h.ok.now, h.ok.now, List.nodup_nil, fun k hk => (by cases hk), fun j _ => rfl⟩, fun _ => rfl, h.small⟩, ⟨List.nodup_nil, fun k hk => (by cases hk), fun k hk => ?_, hN⟩, hN⟩
  · show (settleS s (Nats s.order)).f k = _
    rw [hnone, if_neg (by simp)]
  · have hk' : ((settleS s (Nats s.order)).f k).isSome = true := hk
    rw [hnone] at hk'
    cases hk'
theorem Rel.strike0 {n : Nat} {s : St} {m : DM} (h : Rel n s m) : Rel n { s with ops := 0 } { m with armed := 0 } := ⟨h.on, h.safe, h.order, h.f, rfl, fun e => absurd rfl e, ⟨h.ok.now, h.ok.safe, h.ok.nodup, h.ok.low, h.ok.alike⟩, h.dark, by simp⟩
theorem Rel.strike1 {n k : Nat} {s : St} {m : DM} (h : Rel n s m) (hk : m.armed = k + 2) : Rel n { s with ops := k + 1 } { m with armed := k + 1 } := ⟨h.on, h.safe, h.order, h.f, rfl, fun _ => h.arms (by omega), ⟨h.ok.now, h.ok.safe, h.ok.nodup, h.ok.low, h.ok.alike⟩, h.dark, by have := h.small; show k + 1 ≤ _; omega⟩
theorem Rel.last {n N : Nat} {s : St} {m : DM} (h : Rel n s m) (_ : Wf n N s) (k : Nat) (hk : k < n) : lastOf s k = sec m.now k := by
  unfold lastOf
  rw [h.f k]
  by_cases hd : k ∈ m.dirty
  · rw [if_pos hd]
  · rw [if_neg hd]
    show (s.safe.drop (32 * k)).take 32 = sec m.now k
    rw [h.safe]
    apply List.ext_getElem?
    intro j
    by_cases hj : j < 32
    · rw [sec_get _ _ _ hj, List.getElem?_take_of_lt hj, List.getElem?_drop]
      exact (h.ok.alike _ (by rw [show (32 * k + j) / 32 = k by omega]; exact hd)).symm
    · rw [List.getElem?_eq_none (by rw [List.length_take]; omega), List.getElem?_eq_none (by rw [sec_len h.ok.now hk]; omega)]
end Go.Proofs.YtgdhjgfoalianaaDoor

/-
  A disk and its colour: Start, On, Size, Dirty, Arm, New, Sync: what the calls do.
-/
namespace Go.Proofs.YtgdhjgfoalianaaDoor
open Go.RowKit
open Pd (spl spl_length spl_get clip clip_le DM)
/-- Block D is a disk of n sectors of colour i (each block has a colour; who writes to a disk writes to blocks of its colour alone; 0: nobody writes to it). -/
def IsD (w : World) (c : Nat → Nat) (i D n : Nat) (m : DM) : Prop :=
  ∃ S M cap N vo vk s, At w D S M n cap N vo vk s ∧ Wf n N s ∧ Rel n s m ∧ c D = i ∧ c S = i ∧ c M = i ∧ (∀ b, vo.ownBlock = some b → c b = i) ∧ (∀ b, InB vk b → c b = 0) ∧ i ≠ 0
/-- What an act on colour i leaves: new blocks have colour j or none. -/
structure Step (c : Nat → Nat) (i : Nat) (w : World) (c' : Nat → Nat) (w' : World) : Prop where
  chg : Chg (fun k => c k = i) w w'
  ext : ∀ k, k < w.heap.size → c' k = c k
  norm : ∀ k, w'.heap.size ≤ k → c' k = 0
theorem Step.size {c : Nat → Nat} {i : Nat} {w : World} {c' : Nat → Nat} {w' : World} (h : Step c i w c' w') : w.heap.size ≤ w'.heap.size := h.chg.size
/-- New blocks from w to w' have colour i. -/
def paint (c : Nat → Nat) (w w' : World) (i : Nat) : Nat → Nat := fun k => if k < w.heap.size then c k else if k < w'.heap.size then i else 0
theorem paint_old {c : Nat → Nat} {w w' : World} {i k : Nat} (h : k < w.heap.size) : paint c w w' i k = c k := if_pos h
theorem paint_new {c : Nat → Nat} {w w' : World} {i k : Nat} (h : w.heap.size ≤ k) (h' : k < w'.heap.size) : paint c w w' i k = i := by
  unfold paint
  rw [if_neg (by omega), if_pos h']
theorem paint_norm {c : Nat → Nat} {w w' : World} {i k : Nat} (hs : w.heap.size ≤ w'.heap.size) (h : w'.heap.size ≤ k) : paint c w w' i k = 0 := by
  unfold paint
  rw [if_neg (by omega), if_neg (by omega)]
theorem Step.of_paint {c : Nat → Nat} {i j : Nat} {w w' : World} (h : Chg (fun k => c k = i) w w') : Step c i w (paint c w w' j) w' := ⟨h, fun _ hk => paint_old hk, fun _ hk => paint_norm h.size hk⟩
theorem own_lt {w : World} {v : Value} {l : List Int} (h : OwnN w v l) {b : Nat} (hb : v.ownBlock = some b) : b < w.heap.size := by
  obtain ⟨cur, hc⟩ := h.block hb
  exact (Array.getElem?_eq_some_iff.1 hc).1
/-- What changes neither its colour nor what nobody writes to leaves it. -/
theorem IsD.chg {w w' : World} {c c' : Nat → Nat} {i D n : Nat} {m : DM} (h : IsD w c i D n m) {F : Nat → Prop} (hc : Chg F w w') (hF : ∀ k, k < w.heap.size → c k = i ∨ c k = 0 → ¬ F k) (he : ∀ k, k < w.heap.size → c' k = c k) : IsD w' c' i D n m := by
  obtain ⟨S, M, cap, N, vo, vk, s, hA, hW, hR, h1, h2, h3, h4, h5, h6⟩ := h
  have l1 := hA.d.lt
  have l2 := hA.sf.lt
  have l3 := hA.mp.lt
  refine ⟨S, M, cap, N, vo, vk, s, hA.chg hc (hF D l1 (.inl h1)) (hF S l2 (.inl h2)) (hF M l3 (.inl h3)) (fun b hb => hF b (own_lt hA.od hb) (.inl (h4 b hb))) (fun b hb => hF b (hA.kp.inB_lt hb) (.inr (h5 b hb))), hW, hR, ?_, ?_, ?_, ?_, ?_, h6⟩
  · rw [he D l1]; exact h1
  · rw [he S l2]; exact h2
  · rw [he M l3]; exact h3
  · intro b hb; rw [he b (own_lt hA.od hb)]; exact h4 b hb
  · intro b hb; rw [he b (hA.kp.inB_lt hb)]; exact h5 b hb
/-- Another disk's act leaves it. -/
theorem IsD.step {w w' : World} {c c' : Nat → Nat} {i j D n : Nat} {m : DM} (h : IsD w c i D n m) (hs : Step c j w c' w') (hij : i ≠ j) (hj : j ≠ 0) : IsD w' c' i D n m :=
  h.chg hs.chg (fun _ _ hk e => hk.elim (fun e' => hij (e' ▸ e)) (fun e' => hj (e'.symm.trans e).symm)) hs.ext
/-- New memory alone leaves it. -/
theorem IsD.kept {w w' : World} {c c' : Nat → Nat} {i D n : Nat} {m : DM} (h : IsD w c i D n m) (hb : Below w.heap.size w w') (he : ∀ k, k < w.heap.size → c' k = c k) : IsD w' c' i D n m :=
  h.chg (F := fun _ => False) (Chg.of_below hb) (fun _ _ _ => id) he
theorem IsD.ok {w : World} {c : Nat → Nat} {i D n : Nat} {m : DM} (h : IsD w c i D n m) : Pd.Ok n m ∧ Pd.Dark m ∧ 0 < n ∧ n ≤ 4096 := by
  obtain ⟨S, M, cap, N, vo, vk, s, hA, hW, hR, -⟩ := h
  exact ⟨hR.ok, hR.dark, hA.pos, hA.max⟩
/-- v is a slice in memory that nobody writes to. -/
def Cool (c : Nat → Nat) (v : Value) : Prop := ∀ b, InB v b → c b = 0
theorem Cool.rd {c c' : Nat → Nat} {w w' : World} {i : Nat} {v : Value} {l : List UInt8} (h : Cool c v) (hr : Rd w v l) (hs : Step c i w c' w') (hi : i ≠ 0) : Rd w' v l ∧ Cool c' v :=
  ⟨hr.chg hs.chg (fun b hb e => hi (e.symm.trans (h b hb))), fun b hb => (hs.ext b (hr.inB_lt hb)).trans (h b hb)⟩
theorem Cool.rdN {c c' : Nat → Nat} {w w' : World} {i : Nat} {v : Value} {l : List Int} (h : Cool c v) (hr : RdN w v l) (hs : Step c i w c' w') (hi : i ≠ 0) : RdN w' v l ∧ Cool c' v :=
  ⟨hr.chg hs.chg (fun b hb e => hi (e.symm.trans (h b hb))), fun b hb => (hs.ext b (hr.inB_lt hb)).trans (h b hb)⟩
theorem Step.below {c c' : Nat → Nat} {i : Nat} {w w' : World} (h : Step c i w c' w') (hi : i ≠ 0) {B : Nat} (hB : B ≤ w.heap.size) (hc : ∀ k, k < B → c k = 0) : Below B w w' :=
  h.chg.below hB (fun k hk e => hi (e.symm.trans (hc k hk)))

section
variable {w : World} {c : Nat → Nat} {i D n : Nat} {m : DM}
theorem dOn_any (h : IsD w c i D n m) : Calls Tryd.prog 33 #[.pointer (some ⟨D, 0, none⟩)] w fun e w' => e = .returned (.bool (!m.off)) ∧ w' = w := by
  obtain ⟨S, M, cap, N, vo, vk, s, hA, hW, hR, -⟩ := h
  rw [← hR.on]
  exact on_any hA.d hA.pos
theorem dSize_any (h : IsD w c i D n m) : Calls Tryd.prog 53 #[.pointer (some ⟨D, 0, none⟩)] w fun e w' => e = .returned (.int .i64 ((32 * n : Nat) : Int)) ∧ w' = w := by
  obtain ⟨S, M, cap, N, vo, vk, s, hA, hW, hR, -⟩ := h
  exact size_any hA.d hA.pos hA.max
set_option maxRecDepth 100000 in
theorem start_any {S M cap : Nat} {vo vk : Value} {on : Bool} {ops torn : Int} (hB : Blk w D 67 (DB on S n cap M vo ops vk torn)) (hn : 0 < n) :
    Calls Tryd.prog 20 #[.pointer (some ⟨D, 0, none⟩)] w fun e w' => e = .returned (.bool (!on)) ∧ w' = (if on then w else w.setCell ⟨D, 0, none⟩ (.bool true)) := by
  have HB : Hid (Blk w D 67 (DB on S n cap M vo ops vk torn)) := hB
  have c0 := hB.cell (j := 0) rfl
  have z0 := hB.frozen 0
  clear hB
  go_enter Tryd.func20, Tryd.ntmps20
  go_wp2_with fail
  refine (isMade_any HB.out hn).mono ?_
  rintro e w1 ⟨rfl, hw⟩; subst hw
  cases on with
  | true =>
    go_wp2
    go_ret
    exact ⟨rfl, rfl⟩
  | false =>
    go_wp2
    go_ret
    exact ⟨rfl, rfl⟩
theorem dStart_any (h : IsD w c i D n m) (hc : ∀ k, w.heap.size ≤ k → c k = 0) : Calls Tryd.prog 20 #[.pointer (some ⟨D, 0, none⟩)] w fun e w' => e = .returned (.bool (Pd.start m).1) ∧ IsD w' c i D n (Pd.start m).2 ∧ Step c i w c w' := by
  obtain ⟨S, M, cap, N, vo, vk, s, hA, hW, hR, h1, h2, h3, h4, h5, h6⟩ := h
  refine (start_any hA.d hA.pos).mono ?_
  rintro e w' ⟨rfl, rfl⟩
  have hon := hR.on
  cases ho : m.off with
  | false =>
    rw [ho] at hon
    have e1 : Pd.start m = (false, m) := by unfold Pd.start; rw [ho]; rfl
    rw [e1, hon]
    exact ⟨rfl, ⟨S, M, cap, N, vo, vk, s, hA, hW, hR, h1, h2, h3, h4, h5, h6⟩, ⟨Chg.refl _ _, fun _ _ => rfl, hc⟩⟩
  | true =>
    rw [ho] at hon
    have e1 : Pd.start m = (true, { m with off := false, dirty := [] }) := by unfold Pd.start; rw [ho]; rfl
    rw [e1, hon]
    have hd := hR.dark ho
    simp only [Bool.not_true, Bool.not_false, Bool.false_eq_true, if_false]
    have hU := Chg.cellD w D 0 (.bool true)
    refine ⟨trivial, ⟨S, M, cap, N, vo, vk, { s with on := true }, ⟨hA.d.set 0 (.bool true), hA.sf.chg hU (fun e => hA.DS e.symm), hA.mp.chg hU (fun e => hA.DM e.symm), hA.od.chg hU (fun b hb e => (hA.VD hb).1 e), hA.kp.chg hU (fun b hb e => h6 (by rw [← h1, ← e]; exact h5 b hb)), hA.kw, hA.pos, hA.max⟩, ⟨hW.nodup, hW.low, hW.keys, hW.cnt⟩, ?_, h1, h2, h3, h4, h5, h6⟩, ⟨hU.mono (fun k _ e => by rw [e]; exact h1), fun _ _ => rfl, fun k hk => hc k (by simpa [World.setCell] using hk)⟩⟩
    refine ⟨rfl, hR.safe, by rw [hR.order, hd], fun k => by rw [← hd]; exact hR.f k, hR.ops, hR.arms, ⟨hR.ok.now, hR.ok.safe, List.nodup_nil, fun k hk => (by cases hk), fun j _ => hR.ok.alike j (by rw [hd]; simp)⟩, fun e => (by cases e), hR.small⟩
end
end Go.Proofs.YtgdhjgfoalianaaDoor

/-
  (*disk.Disk).Crash, Arm, Sync; disk.New: what the calls do.
-/
namespace Go.Proofs.YtgdhjgfoalianaaDoor
open Go.RowKit
open Pd (spl spl_length spl_get clip clip_le DM)
section
variable {w : World} {c : Nat → Nat} {i D n : Nat} {m : DM}
theorem InB_nil (b : Nat) : ¬ InB (.slice none 0 0) b := fun ⟨_, _, _, e, _⟩ => by cases e
/-- A crash of a disk with power. -/
theorem isD_crash {S M cap N : Nat} {s : St} {w' : World} (hR : Rel n s m) (hW : Wf n N s) (keep : List Int) (t : Int) (hA : At w' D S M n cap 0 (.slice none 0 0) (.slice none 0 0) (crashS s keep (clip t))) {c' : Nat → Nat} (h1 : c' D = i) (h2 : c' S = i) (h3 : c' M = i) (h6 : i ≠ 0) :
    IsD w' c' i D n (Pd.crash m keep t) :=
  ⟨S, M, cap, 0, _, _, _, hA, Wf.crash s keep _, hR.crash hW keep t, h1, h2, h3, fun b hb => (by cases hb), fun b hb => absurd hb (InB_nil b), h6⟩
theorem dCrash_any (h : IsD w c i D n m) (hc : ∀ k, w.heap.size ≤ k → c k = 0) (v : Value) (l : List Int) (t : Int) (hr : RdN w v l) (hl : ∀ k ∈ l, (Lit.int .i64 k).wf = true) (hv : Cool c v) :
    Calls Tryd.prog 18 #[.pointer (some ⟨D, 0, none⟩), v, .int .i64 t] w fun e w' => e = .returned (.bool (Pd.crashed m l t).1) ∧ ∃ c', IsD w' c' i D n (Pd.crashed m l t).2 ∧ Step c i w c' w' := by
  obtain ⟨S, M, cap, N, vo, vk, s, hA, hW, hR, h1, h2, h3, h4, h5, h6⟩ := h
  have hon := hR.on
  cases ho : m.off with
  | true =>
    rw [ho] at hon
    have e1 : Pd.crashed m l t = (false, m) := by unfold Pd.crashed; rw [ho]; rfl
    rw [e1]
    have hd := hA.d
    rw [hon] at hd
    refine (crash_off hd hA.pos v t).mono ?_
    rintro e w' ⟨rfl, rfl⟩
    exact ⟨rfl, c, ⟨S, M, cap, N, vo, vk, s, hA, hW, hR, h1, h2, h3, h4, h5, h6⟩, ⟨Chg.refl _ _, fun _ _ => rfl, hc⟩⟩
  | false =>
    rw [ho] at hon
    have e1 : Pd.crashed m l t = (true, Pd.crash m l t) := by unfold Pd.crashed; rw [ho]; rfl
    rw [e1]
    refine (crash_on hA hW hon v l t hr hl (fun b hb => ⟨fun e => h6 (by rw [← h2, ← e]; exact hv b hb), fun e => h6 (by rw [← h3, ← e]; exact hv b hb)⟩) (fun b hb => ⟨fun e => h6 (by rw [← h2, ← e]; exact h5 b hb), fun e => h6 (by rw [← h3, ← e]; exact h5 b hb)⟩)).mono ?_
    rintro e w' ⟨rfl, hA', hU⟩
    have hU' : Chg (fun k => c k = i) w w' := hU.mono (fun k _ e => by rcases e with e | e | e <;> (rw [e]; assumption))
    refine ⟨rfl, paint c w w' i, ?_, Step.of_paint hU'⟩
    exact isD_crash hR hW l t hA' ((paint_old hA.d.lt).trans h1) ((paint_old hA.sf.lt).trans h2) ((paint_old hA.mp.lt).trans h3) h6
/-- What Arm makes of a disk. -/
def armS (s : St) (ops : Int) (l : List Int) (t : Int) : St := if 0 < ops then { s with ops := ops.toNat, keep := l, torn := t } else { s with ops := 0, keep := [], torn := 0 }
set_option maxHeartbeats 1000000 in
set_option maxRecDepth 100000 in
theorem arm_any {S M cap N : Nat} {vo vk : Value} {s : St} (h : At w D S M n cap N vo vk s) (ops : Int) (hops : (Lit.int .i64 ops).wf = true) (v : Value) (l : List Int) (t : Int) (hr : RdN w v l) (hl : ∀ k ∈ l, (Lit.int .i64 k).wf = true) (hl2 : l.length ≤ 1000000) (hvD : ∀ b, InB v b → b ≠ D) :
    Calls Tryd.prog 22 #[.pointer (some ⟨D, 0, none⟩), .int .i64 ops, v, .int .i64 t] w fun e w' => e = .returned (.tuple #[]) ∧ Chg (fun k => k = D) w w' ∧
      ∃ vk', At w' D S M n cap N vo vk' (armS s ops l t) ∧ (∀ b, InB vk' b → w.heap.size ≤ b) := by
  have HA : Hid (At w D S M n cap N vo vk s) := h
  have HR : Hid (RdN w v l) := hr
  have HL : Hid (∀ k ∈ l, (Lit.int .i64 k).wf = true) := hl
  have HVD : Hid (∀ b, InB v b → b ≠ D) := hvD
  have z4 := h.d.frozen 4
  have z5 := h.d.frozen 5
  have z6 := h.d.frozen 6
  have c4 := h.d.cell (j := 4) rfl
  have c5 := h.d.cell (j := 5) rfl
  have c6 := h.d.cell (j := 6) rfl
  have bd := bounds_i64 hops
  clear h hr hl hops hvD
  go_enter Tryd.func22, Tryd.ntmps22
  go_wp2_with fail
  refine (isMade_any HA.out.d HA.out.pos).mono ?_
  rintro e w0 ⟨rfl, hw⟩; subst hw
  go_upto_region 2 with fail
  obtain ⟨w1, hw1⟩ : ∃ x, x = ((w0.setCell ⟨D, 4, none⟩ (.int .i64 0)).setCell ⟨D, 5, none⟩ (.slice none 0 0)).setCell ⟨D, 6, none⟩ (.int .i64 0) := ⟨_, rfl⟩
  rw [← hw1]
  have U1 : Hid (Chg (fun k => k = D) w0 w1) := (show Chg _ _ _ by rw [hw1]; exact ((Chg.cellD _ _ _ _).trans (Chg.cellD _ _ _ _)).trans (Chg.cellD _ _ _ _))
  have A1 : Hid (At w1 D S M n cap N vo (.slice none 0 0) { s with ops := 0, keep := [], torn := 0 }) := (show At _ _ _ _ _ _ _ _ _ _ by
    have hA := HA.out
    have hB := ((hA.d.set 4 (.int .i64 0)).set 5 (.slice none 0 0)).set 6 (.int .i64 0)
    rw [← hw1] at hB
    exact ⟨hB, hA.sf.chg U1.out (fun e => hA.DS e.symm), hA.mp.chg U1.out (fun e => hA.DM e.symm), hA.od.chg U1.out (fun b hb e => (hA.VD hb).1 e), RdN_nil _, fun k hk => (by cases hk), hA.pos, hA.max⟩)
  have R1 : Hid (RdN w1 v l) := HR.out.chg U1.out (fun b hb e => HVD.out b hb e)
  clear hw1 z4 z5 z6 c4 c5 c6
  by_cases hp : 0 < ops
  · go_wp2_with fail
    refine (cloneI_any R1.out hl2).mono ?_
    rintro e w2 ⟨vk', rfl, ho, hnew, hb⟩
    have A2 : Hid (At w2 D S M n cap N vo (.slice none 0 0) { s with ops := 0, keep := [], torn := 0 }) := A1.out.kept hb
    have z4 := A2.out.d.frozen 4
    have z5 := A2.out.d.frozen 5
    have z6 := A2.out.d.frozen 6
    have c4 := A2.out.d.cell (j := 4) rfl
    have c5 := A2.out.d.cell (j := 5) rfl
    have c6 := A2.out.d.cell (j := 6) rfl
    have HO : Hid (OwnN w2 vk' l) := ho
    have HN : Hid (∀ b, vk'.ownBlock = some b → w1.heap.size ≤ b) := hnew
    have HB : Hid (Below w1.heap.size w1 w2) := hb
    obtain ⟨a, cp, hvk, -⟩ := ho.rd
    clear ho hnew hb
    subst hvk
    go_wp2
    go_end0
    obtain ⟨w3, hw3⟩ : ∃ x, x = ((w2.setCell ⟨D, 4, none⟩ (.int .i64 ops)).setCell ⟨D, 5, none⟩ (.slice a l.length cp)).setCell ⟨D, 6, none⟩ (.int .i64 t) := ⟨_, rfl⟩
    rw [← hw3]
    have hU : Chg (fun k => k = D) w2 w3 := by rw [hw3]; exact ((Chg.cellD _ _ _ _).trans (Chg.cellD _ _ _ _)).trans (Chg.cellD _ _ _ _)
    have hA := A2.out
    have hB := ((hA.d.set 4 (.int .i64 ops)).set 5 (.slice a l.length cp)).set 6 (.int .i64 t)
    rw [← hw3] at hB
    have hnB : ∀ b, InB (.slice a l.length cp) b → w1.heap.size ≤ b := by
      rintro b ⟨off, k, cp', e, hk⟩
      cases e
      exact HN.out b rfl
    refine ⟨rfl, (U1.out.trans (Chg.of_below HB.out)).trans hU, .slice a l.length cp, ?_, fun b hb => Nat.le_trans U1.out.size (hnB b hb)⟩
    unfold armS
    rw [if_pos hp]
    refine ⟨?_, hA.sf.chg hU (fun e => hA.DS e.symm), hA.mp.chg hU (fun e => hA.DM e.symm), hA.od.chg hU (fun b hb e => (hA.VD hb).1 e), ?_, HL.out, hA.pos, hA.max⟩
    · have : ((ops.toNat : Nat) : Int) = ops := by omega
      show Blk w3 D _ (DB s.on S n cap M vo ((ops.toNat : Nat) : Int) _ t)
      rw [this]
      exact hB
    · exact (OwnN.rd HO.out).chg hU (fun b hb e => by
        have := hnB b hb
        have := A1.out.d.lt
        omega)
  · go_wp2
    go_end0
    exact ⟨rfl, U1.out, .slice none 0 0, by unfold armS; rw [if_neg (by omega)]; exact A1.out, fun b hb => absurd hb (InB_nil b)⟩
theorem dArm_any (h : IsD w c i D n m) (ops : Int) (hops : (Lit.int .i64 ops).wf = true) (v : Value) (l : List Int) (t : Int) (hr : RdN w v l) (hl : ∀ k ∈ l, (Lit.int .i64 k).wf = true) (hl2 : l.length ≤ 1000000) (hv : Cool c v) :
    Calls Tryd.prog 22 #[.pointer (some ⟨D, 0, none⟩), .int .i64 ops, v, .int .i64 t] w fun e w' => e = .returned (.tuple #[]) ∧ ∃ c', IsD w' c' i D n (Pd.arm m ops l t) ∧ Step c i w c' w' := by
  obtain ⟨S, M, cap, N, vo, vk, s, hA, hW, hR, h1, h2, h3, h4, h5, h6⟩ := h
  have bd := bounds_i64 hops
  refine (arm_any hA ops hops v l t hr hl hl2 (fun b hb e => h6 (by rw [← h1, ← e]; exact hv b hb))).mono ?_
  rintro e w' ⟨rfl, hU, vk', hA', hnew⟩
  have hU' : Chg (fun k => c k = i) w w' := hU.mono (fun k _ e => by rw [e]; exact h1)
  refine ⟨rfl, paint c w w' 0, ⟨S, M, cap, N, vo, vk', _, hA', ?_, ?_, (paint_old hA.d.lt).trans h1, (paint_old hA.sf.lt).trans h2, (paint_old hA.mp.lt).trans h3, fun b hb => (paint_old (own_lt hA.od hb)).trans (h4 b hb), fun b hb => ?_, h6⟩, Step.of_paint hU'⟩
  · unfold armS
    split
    · exact ⟨hW.nodup, hW.low, hW.keys, hW.cnt⟩
    · exact ⟨hW.nodup, hW.low, hW.keys, hW.cnt⟩
  · unfold armS
    split
    · exact ⟨hR.on, hR.safe, hR.order, hR.f, rfl, fun _ => ⟨rfl, rfl⟩, ⟨hR.ok.now, hR.ok.safe, hR.ok.nodup, hR.ok.low, hR.ok.alike⟩, hR.dark, by show ops.toNat ≤ _; omega⟩
    · have e0 : ops.toNat = 0 := by omega
      exact ⟨hR.on, hR.safe, hR.order, hR.f, e0.symm, fun e => absurd e0 e, ⟨hR.ok.now, hR.ok.safe, hR.ok.nodup, hR.ok.low, hR.ok.alike⟩, hR.dark, by show ops.toNat ≤ _; omega⟩
  · exact paint_new (hnew b hb) (hA'.kp.inB_lt hb)
set_option maxHeartbeats 1000000 in
set_option maxRecDepth 100000 in
theorem sync_off {S M cap : Nat} {vo vk : Value} {ops torn : Int} (hB : Blk w D 67 (DB false S n cap M vo ops vk torn)) (hn : 0 < n) : Calls Tryd.prog 39 #[.pointer (some ⟨D, 0, none⟩)] w fun e w' => e = .returned (.int .i64 7) ∧ w' = w := by
  have HB : Hid (Blk w D 67 (DB false S n cap M vo ops vk torn)) := hB
  clear hB
  go_enter Tryd.func39, Tryd.ntmps39
  go_wp2_with fail
  refine (ready_any HB.out hn).mono ?_
  rintro e w1 ⟨rfl, hw⟩; subst hw
  simp only [Bool.false_eq_true, if_false]
  go_wp2
  go_ret
  exact ⟨rfl, rfl⟩
set_option maxHeartbeats 1000000 in
set_option maxRecDepth 100000 in
theorem sync_none {S M cap : Nat} {a : Option Addr} {cp : Nat} {vk : Value} {ops torn : Int} (hB : Blk w D 67 (DB true S n cap M (.slice a 0 cp) ops vk torn)) (hn : 0 < n) : Calls Tryd.prog 39 #[.pointer (some ⟨D, 0, none⟩)] w fun e w' => e = .returned (.int .i64 0) ∧ w' = w := by
  have HB : Hid (Blk w D 67 (DB true S n cap M (.slice a 0 cp) ops vk torn)) := hB
  have c3 := hB.cell (j := 3) rfl
  clear hB
  go_enter Tryd.func39, Tryd.ntmps39
  go_wp2_with fail
  refine (ready_any HB.out hn).mono ?_
  rintro e w1 ⟨rfl, hw⟩; subst hw
  simp only [if_true]
  go_wp2
  go_ret
  exact ⟨rfl, rfl⟩
/-- fails, whatever is in store. -/
theorem fails_any {S M cap N : Nat} {vo vk : Value} {s : St} (hA : At w D S M n cap N vo vk s) (hW : Wf n N s) (hR : Rel n s m) (hon : m.off = false) (hvk : ∀ b, InB vk b → b ≠ D ∧ b ≠ S ∧ b ≠ M) :
    Calls Tryd.prog 48 #[.pointer (some ⟨D, 0, none⟩)] w fun e w' => e = .returned (.bool (Pd.strike m).1) ∧ Chg (fun k => k = D ∨ k = S ∨ k = M) w w' ∧
      ((Pd.strike m).1 = false → ∃ s', At w' D S M n cap N vo vk s' ∧ Wf n N s' ∧ Rel n s' (Pd.strike m).2) ∧
      ((Pd.strike m).1 = true → ∃ s', At w' D S M n cap 0 (.slice none 0 0) (.slice none 0 0) s' ∧ Wf n 0 s' ∧ Rel n s' (Pd.strike m).2) := by
  have hso : s.on = true := by rw [hR.on, hon]; rfl
  by_cases h0 : m.armed = 0
  · have e1 : Pd.strike m = (false, m) := by unfold Pd.strike; rw [if_pos h0]
    rw [e1]
    have hd := hA.d
    rw [hR.ops, h0] at hd
    refine (fails_none hd).mono ?_
    rintro e w' ⟨rfl, rfl⟩
    exact ⟨rfl, Chg.refl _ _, fun _ => ⟨s, hA, hW, hR⟩, fun e => (by cases e)⟩
  · by_cases h1 : m.armed = 1
    · have e1 : Pd.strike m = (true, Pd.crash m m.keep m.torn) := by unfold Pd.strike; rw [if_neg h0, if_pos h1]
      rw [e1]
      refine (fails_now hA hW hso (by rw [hR.ops, h1]) hvk).mono ?_
      rintro e w' ⟨rfl, hA', hU⟩
      obtain ⟨k1, k2⟩ := hR.arms h0
      refine ⟨rfl, hU, fun e => (by cases e), fun _ => ⟨_, hA', Wf.crash _ _ _, ?_⟩⟩
      have e2 : Pd.crash m m.keep m.torn = Pd.crash { m with armed := 0 } s.keep s.torn := by rw [k1, k2]; rfl
      show Rel n _ (Pd.crash m m.keep m.torn)
      rw [e2]
      exact (hR.strike0).crash (hW.ops 0) s.keep s.torn
    · obtain ⟨k, hk⟩ : ∃ k, m.armed = k + 2 := ⟨m.armed - 2, by omega⟩
      have e1 : Pd.strike m = (false, { m with armed := k + 1 }) := by unfold Pd.strike; rw [if_neg h0, if_neg h1, hk]; rfl
      rw [e1]
      have hsm := hR.small
      refine (fails_more hA k (by rw [hR.ops, hk]) (by omega) (fun b hb => (hvk b hb).1)).mono ?_
      rintro e w' ⟨rfl, hA', hU⟩
      exact ⟨rfl, hU.mono (fun _ _ e => .inl e), fun _ => ⟨_, hA', hW.ops _, hR.strike1 hk⟩, fun e => (by cases e)⟩
set_option maxHeartbeats 1000000 in
set_option maxRecDepth 100000 in
theorem sync_go {S M cap N : Nat} {vo vk : Value} {s : St} (hA : At w D S M n cap N vo vk s) (hW : Wf n N s) (hR : Rel n s m) (hon : m.off = false) (hd : m.dirty ≠ []) (hvk : ∀ b, InB vk b → b ≠ D ∧ b ≠ S ∧ b ≠ M) :
    Calls Tryd.prog 39 #[.pointer (some ⟨D, 0, none⟩)] w fun e w' => e = .returned (.int .i64 ((Pd.sync m).1 : Int)) ∧ Chg (fun k => k = D ∨ k = S ∨ k = M) w w' ∧ ∃ N' vo' vk' s', At w' D S M n cap N' vo' vk' s' ∧ Wf n N' s' ∧ Rel n s' (Pd.sync m).2 ∧ (vo' = vo ∨ vo' = .slice none 0 0) ∧ (vk' = vk ∨ vk' = .slice none 0 0) := by
  have HA : Hid (At w D S M n cap N vo vk s) := hA
  have HW : Hid (Wf n N s) := hW
  have HR : Hid (Rel n s m) := hR
  have HVK : Hid (∀ b, InB vk b → b ≠ D ∧ b ≠ S ∧ b ≠ M) := hvk
  have hso : s.on = true := by rw [hR.on, hon]; rfl
  have hdd := hA.d
  rw [hso] at hdd
  have HD : Hid (Blk w D 67 (DB true S n cap M vo s.ops vk s.torn)) := hdd
  have hp := hA.pos
  obtain ⟨a, cp, e, h1, h2, h3, h4⟩ := hA.od.rd
  have c3 := hA.d.cell (j := 3) rfl
  have c3' : w.cell? ⟨D, 3, none⟩ = some (.slice a (Nats s.order).length cp) := by rw [← e]; exact c3
  have hlen : ¬ (Nats s.order).length = 0 := fun e => hd (by rw [← hR.order]; exact List.eq_nil_of_length_eq_zero (by rw [← Nats_length]; exact e))
  have q1 : (((Nats s.order).length : Int) == 0) = false := by simp; exact fun e => hlen (by rw [e]; rfl)
  obtain ⟨L, HL⟩ : ∃ L, Hid ((Nats s.order).length = L) := ⟨_, rfl⟩
  rw [HL.out] at c3' q1
  clear hA hW hR hvk hdd c3 h1 h2 h3 h4 hlen e
  obtain ⟨r, HRC⟩ : ∃ r, Hid (Pd.sync m = r) := ⟨_, rfl⟩
  rw [HRC.out]
  go_enter Tryd.func39, Tryd.ntmps39
  go_wp2_with fail
  refine (ready_any HD.out hp).mono ?_
  rintro e w1 ⟨rfl, hw⟩; subst hw
  simp only [if_true]
  go_wp2_with fail
  refine (fails_any HA.out HW.out HR.out hon HVK.out).mono ?_
  rintro e w2 ⟨rfl, u2, f2, t2⟩
  have U2 : Hid (Chg (fun k => k = D ∨ k = S ∨ k = M) w1 w2) := u2
  have hsync : Pd.sync m = (match Pd.strike m with | (true, e) => (7, e) | (false, e) => (0, { e with safe := e.now, dirty := [] })) := by
    conv => lhs; unfold Pd.sync
    rw [if_neg (by rw [hon]; simp), if_neg hd]
    rfl
  cases hs : Pd.strike m with
  | mk x e =>
    rw [hs] at f2 t2 hsync
    cases x with
    | true =>
      obtain ⟨s', hA', hW', hR'⟩ := t2 rfl
      have HE : Hid (r = (7, e)) := (show _ = _ by rw [← HRC.out, hsync])
      have A2 : Hid _ := hA'
      clear f2 t2 u2 hsync hA'
      go_wp2
      go_ret
      rw [HE.out]
      exact ⟨rfl, U2.out, 0, _, _, s', A2.out, hW', hR', .inr rfl, .inr rfl⟩
    | false =>
      obtain ⟨s', hA', hW', hR'⟩ := f2 rfl
      have HE : Hid (r = (0, { e with safe := e.now, dirty := [] })) := (show _ = _ by rw [← HRC.out, hsync])
      have A2 : Hid (At w2 D S M n cap N vo vk s') := hA'
      have W2 : Hid (Wf n N s') := hW'
      have R2 : Hid (Rel n s' e) := hR'
      have c3 := hA'.d.cell (j := 3) rfl
      have HST := settle_any hA' hW' vo (Nats s'.order) hA'.od.rd (fun k hk => by
        unfold Nats at hk
        obtain ⟨j, hj, rfl⟩ := List.mem_map.1 hk
        exact i64_of_nat (by have := hW'.low j hj; have := hA'.max; omega)) (fun b hb => by
        obtain ⟨off, k, cp', e, hk⟩ := hb
        exact (hA'.VD (b := b) (by rw [e]; rfl)).2) (fun b hb => (HVK.out b hb).2) (fun b hb => (hA'.VD hb).2)
      clear f2 t2 u2 hsync hA' hW' hR' c3'
      go_wp2_with fail
      refine HST.mono ?_
      rintro e' w3 ⟨rfl, N3, a3, f3, u3⟩
      have A3 : Hid (At w3 D S M n cap N3 vo vk (settleS s' (Nats s'.order))) := a3
      have U3 : Hid (Chg (fun k => k = S ∨ k = M) w2 w3) := u3
      obtain ⟨hR3, hW3, hN3⟩ := R2.out.sync W2.out f3
      have HR3 : Hid _ := hR3
      have HW3 : Hid _ := hW3
      have c3 := a3.d.cell (j := 3) rfl
      have z3 := a3.d.frozen 3
      clear a3 f3 u3 hR3 hW3
      go_wp2
      go_ret
      rw [HE.out]
      obtain ⟨w4, hw4⟩ : ∃ x, x = w3.setCell ⟨D, 3, none⟩ (.slice none 0 0) := ⟨_, rfl⟩
      rw [← hw4]
      have hU : Chg (fun k => k = D) w3 w4 := by rw [hw4]; exact Chg.cellD _ _ _ _
      have hA := A3.out
      have hB := hA.d.set 3 (.slice none 0 0)
      rw [← hw4] at hB
      refine ⟨rfl, (U2.out.trans (U3.out.mono (fun _ _ e => .inr e))).trans (hU.mono (fun _ _ e => .inl e)), N3, .slice none 0 0, vk, { settleS s' (Nats s'.order) with order := [] }, ⟨hB, hA.sf.chg hU (fun e => hA.DS e.symm), hA.mp.chg hU (fun e => hA.DM e.symm), OwnN_nil _, hA.kp.chg hU (fun b hb e => (HVK.out b hb).1 e), hA.kw, hA.pos, hA.max⟩, HW3.out, HR3.out, .inr rfl, .inl rfl⟩
theorem dSync_any (h : IsD w c i D n m) (hc : ∀ k, w.heap.size ≤ k → c k = 0) : Calls Tryd.prog 39 #[.pointer (some ⟨D, 0, none⟩)] w fun e w' => e = .returned (.int .i64 ((Pd.sync m).1 : Int)) ∧ ∃ c', IsD w' c' i D n (Pd.sync m).2 ∧ Step c i w c' w' := by
  obtain ⟨S, M, cap, N, vo, vk, s, hA, hW, hR, h1, h2, h3, h4, h5, h6⟩ := h
  have hon := hR.on
  cases ho : m.off with
  | true =>
    rw [ho] at hon
    have e1 : Pd.sync m = (7, m) := by unfold Pd.sync; rw [ho]; rfl
    rw [e1]
    have hd := hA.d
    rw [hon] at hd
    refine (sync_off hd hA.pos).mono ?_
    rintro e w' ⟨rfl, rfl⟩
    exact ⟨rfl, c, ⟨S, M, cap, N, vo, vk, s, hA, hW, hR, h1, h2, h3, h4, h5, h6⟩, ⟨Chg.refl _ _, fun _ _ => rfl, hc⟩⟩
  | false =>
    rw [ho] at hon
    by_cases hd : m.dirty = []
    · have e1 : Pd.sync m = (0, m) := by unfold Pd.sync; rw [ho, if_neg (by simp), if_pos hd]
      rw [e1]
      obtain ⟨a, cp, e, -⟩ := hA.od.rd
      have hB := hA.d
      rw [hon, e, hR.order, hd] at hB
      refine (sync_none hB hA.pos).mono ?_
      rintro e w' ⟨rfl, rfl⟩
      exact ⟨rfl, c, ⟨S, M, cap, N, vo, vk, s, hA, hW, hR, h1, h2, h3, h4, h5, h6⟩, ⟨Chg.refl _ _, fun _ _ => rfl, hc⟩⟩
    · refine (sync_go hA hW hR ho hd (fun b hb => ⟨fun e => h6 (by rw [← h1, ← e]; exact h5 b hb), fun e => h6 (by rw [← h2, ← e]; exact h5 b hb), fun e => h6 (by rw [← h3, ← e]; exact h5 b hb)⟩)).mono ?_
      rintro e w' ⟨rfl, hU, N', vo', vk', s', hA', hW', hR', hvo, hvk⟩
      have hU' : Chg (fun k => c k = i) w w' := hU.mono (fun k _ e => by rcases e with e | e | e <;> (rw [e]; assumption))
      refine ⟨rfl, paint c w w' i, ⟨S, M, cap, N', vo', vk', s', hA', hW', hR', (paint_old hA.d.lt).trans h1, (paint_old hA.sf.lt).trans h2, (paint_old hA.mp.lt).trans h3, fun b hb => ?_, fun b hb => ?_, h6⟩, Step.of_paint hU'⟩
      · rcases hvo with rfl | rfl
        · exact (paint_old (own_lt hA.od hb)).trans (h4 b hb)
        · cases hb
      · rcases hvk with rfl | rfl
        · exact (paint_old (hA.kp.inB_lt hb)).trans (h5 b hb)
        · exact absurd hb (InB_nil b)
end
end Go.Proofs.YtgdhjgfoalianaaDoor
