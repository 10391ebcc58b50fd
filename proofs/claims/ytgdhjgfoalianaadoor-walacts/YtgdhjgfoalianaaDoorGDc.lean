/-
  Texts that ride together: DiskN DiskW Region3 DiskQ DiskK DOne DOneC.
-/
import Derived.Test.YtgdhjgfoalianaaDoorGDb
import Derived.Test.YtgdhjgfoalianaaDoorGK
/-
  disk.New: what the call does.
-/
namespace Go.Proofs.YtgdhjgfoalianaaDoor
open Go.RowKit
open Pd (spl spl_length spl_get clip clip_le DM)
theorem madeZ (k : Nat) : madeCells (Value.agg (By Zs).toArray).cells k = (By (List.replicate k 0)).toArray := by
  have hz : (Value.agg (By Zs).toArray).cells = Array.replicate 32 (Value.int .u8 0) := by
    rfl
  rw [hz]
  apply Array.ext'
  unfold madeCells
  rw [Array.toList_map, Array.toList_range]
  apply List.ext_getElem
  · simp [By]
  · intro i h1 h2
    have hi : i % 32 < 32 := Nat.mod_lt _ (by omega)
    simp [By, hi]
theorem replicate_take (k n : Nat) (h : k ≤ n) : (By (List.replicate n 0)).take k = By (List.replicate k 0) := by
  simp [By, List.take_replicate, Nat.min_eq_left h]
theorem rel_new (n : Nat) : Rel n { on := true, safe := List.replicate (n * 32) 0, f := fun _ => none, order := [], ops := 0, keep := [], torn := 0 } (Pd.new n) :=
  ⟨rfl, by rw [Nat.mul_comm]; rfl, rfl, fun _ => by simp [Pd.new], rfl, fun e => absurd rfl e, Pd.ok_new n, fun e => (by cases e), by simp [Pd.new]⟩
set_option maxHeartbeats 1000000 in
set_option maxRecDepth 100000 in
theorem dNew_none (w : World) (k : Int) (hk : k < 1 ∨ 4096 < k) : Calls Tryd.prog 11 #[.int .i64 k] w fun e w' => e = .returned (.pointer none) ∧ w' = w := by
  go_enter Tryd.func11, Tryd.ntmps11
  by_cases h1 : k < 1
  · go_wp2
    go_ret
    exact ⟨rfl, rfl⟩
  · have h2 : 4096 < k := by omega
    go_wp2
    go_ret
    exact ⟨rfl, rfl⟩
set_option maxHeartbeats 1000000 in
set_option maxRecDepth 100000 in
theorem dNew_any (w : World) (c : Nat → Nat) (i : Nat) (hi : i ≠ 0) (n : Nat) (h1 : 0 < n) (h2 : n ≤ 4096) :
    Calls Tryd.prog 11 #[.int .i64 (n : Int)] w fun e w' => ∃ D, e = .returned (.pointer (some ⟨D, 0, none⟩)) ∧ ∃ c', IsD w' c' i D n (Pd.new n) ∧ Step c i w c' w' ∧ Below w.heap.size w w' ∧ w.heap.size ≤ D := by
  obtain ⟨i0, hi0, hz0, hz1, hz2⟩ := info_parts Tryd.info88
  have hmk : ∀ W, (Instr.makeSlice 62 (.int .i64 (n : Int)) (.int .i64 (n : Int))).run Tryd.prog W = .ok (.slice (some ⟨W.heap.size, 0, none⟩) n n) (W.alloc (.cells (By (List.replicate (n * 32) 0)).toArray 88)) := fun W => by
    have := run_make (P := Tryd.prog) W 62 88 i0 _ Tryd.underlying62 hi0 hz0 .i64 .i64 (n : Int) (n : Int) (by omega) (by omega) (by rw [hz2]; omega) (by omega)
    rw [hz1, madeZ] at this
    simpa using this
  obtain ⟨Z, HZ⟩ : ∃ Z, Hid (By (List.replicate (n * 32) 0) = Z) := ⟨_, rfl⟩
  rw [HZ.out] at hmk
  have hmm := @run_makeMap Tryd.prog
  have q1 : ¬ (n : Int) < 1 := by omega
  have q2 : ¬ 4096 < (n : Int) := by omega
  have q3 : (n : Int) ≤ 4096 := by omega
  clear hi0 hz0 hz1 hz2
  go_enter Tryd.func11, Tryd.ntmps11
  go_wp2
  go_ret
  obtain ⟨wa, hwa⟩ : ∃ x, x = w.alloc (.cells Z.toArray 88 (0, 0)) := ⟨_, rfl⟩
  rw [← hwa]
  obtain ⟨wb, hwb⟩ : ∃ x, x = wa.alloc (.map #[] 0) := ⟨_, rfl⟩
  rw [← hwb]
  obtain ⟨wd, hwd⟩ : ∃ x, x = wb.alloc (.cells (DB true w.heap.size n n (w.heap.size + 1) (.slice none 0 0) 0 (.slice none 0 0) 0).toArray 67 (0, 0)) := ⟨_, rfl⟩
  have hwd' : wb.alloc (.cells #[.bool true, .slice (some ⟨w.heap.size, 0, none⟩) n n, .map (some (w.heap.size + 1)), .slice none 0 0, .int .i64 0, .slice none 0 0, .int .i64 0] 67) = wd := hwd.symm
  rw [hwd']
  have sa : wa.heap.size = w.heap.size + 1 := by rw [hwa]; simp
  have sb : wb.heap.size = w.heap.size + 1 + 1 := by rw [hwb]; simp [sa]
  have sd : wd.heap.size = w.heap.size + 1 + 1 + 1 := by rw [hwd]; simp [sb]
  have bel : Below w.heap.size w wd := by
    rw [hwd, hwb, hwa]
    exact (((Below.refl _ _).alloc (Nat.le_refl _) _).alloc (by simp) _).alloc (by simp; omega) _
  have hB : Blk wd (w.heap.size + 1 + 1) 67 (DB true w.heap.size n n (w.heap.size + 1) (.slice none 0 0) ((0 : Nat) : Int) (.slice none 0 0) 0) := by
    rw [hwd, ← sb]
    exact Blk.new wb 67 _
  have hS : OwnS wd w.heap.size n n (List.replicate (n * 32) 0) := by
    have h0 : Blk wa w.heap.size 88 Z := by rw [hwa]; exact Blk.new w 88 Z
    have h1 : Blk wd w.heap.size 88 Z := by
      rw [hwd, hwb]
      exact (h0.alloc _).alloc _
    rw [← HZ.out] at h1
    refine OwnS.of_blk h1 ?_ (by simp) (by simp [By]) (Nat.le_refl _) (by unfold maxLen; omega)
    rw [List.take_of_length_le (by simp [By])]
  have hM : MapS wd (w.heap.size + 1) (fun _ => none) 0 := by
    have h0 : MapS wb wa.heap.size (fun _ => none) 0 := by rw [hwb]; exact MapS_made wa
    rw [sa] at h0
    rw [hwd]
    exact h0.chg (F := fun _ => False) (Chg.alloc _ _ _) id
  refine ⟨w.heap.size + 1 + 1, rfl, paint c w wd i, ⟨w.heap.size, w.heap.size + 1, n, 0, .slice none 0 0, .slice none 0 0, _, ⟨hB, hS, hM, OwnN_nil _, RdN_nil _, fun k hk => (by cases hk), h1, h2⟩, ⟨List.nodup_nil, fun k hk => (by cases hk), fun k hk => (by cases hk), rfl⟩, rel_new n, paint_new (by omega) (by omega), paint_new (by omega) (by omega), paint_new (by omega) (by omega), fun b hb => (by cases hb), fun b hb => absurd hb (InB_nil b), hi⟩, Step.of_paint (Chg.of_below bel), bel, by omega⟩
end Go.Proofs.YtgdhjgfoalianaaDoor

/-
  (*disk.Disk).Write: what the call does.
-/
namespace Go.Proofs.YtgdhjgfoalianaaDoor
open Go.RowKit
open Pd (spl spl_length spl_get clip clip_le DM)
section
variable {w : World} {c : Nat → Nat} {i D n : Nat} {m : DM}
set_option maxHeartbeats 1000000 in
set_option maxRecDepth 100000 in
theorem write_off {S M cap : Nat} {vo vk : Value} {ops torn : Int} (hB : Blk w D 67 (DB false S n cap M vo ops vk torn)) (hn : 0 < n) (p : Int) (v : Value) : Calls Tryd.prog 24 #[.pointer (some ⟨D, 0, none⟩), .int .i64 p, v] w fun e w' => e = .returned (.int .i64 7) ∧ w' = w := by
  have HB : Hid (Blk w D 67 (DB false S n cap M vo ops vk torn)) := hB
  clear hB
  go_enter Tryd.func24, Tryd.ntmps24
  go_wp2_with fail
  refine (ready_any HB.out hn).mono ?_
  rintro e w1 ⟨rfl, hw⟩; subst hw
  simp only [Bool.false_eq_true, if_false]
  go_wp2
  go_ret
  exact ⟨rfl, rfl⟩
set_option maxHeartbeats 1000000 in
set_option maxRecDepth 100000 in
theorem write_neg {S M cap : Nat} {vo vk : Value} {ops torn : Int} (hB : Blk w D 67 (DB true S n cap M vo ops vk torn)) (hn : 0 < n) (p : Int) (hp : p < 0) (v : Value) : Calls Tryd.prog 24 #[.pointer (some ⟨D, 0, none⟩), .int .i64 p, v] w fun e w' => e = .returned (.int .i64 2) ∧ w' = w := by
  have HB : Hid (Blk w D 67 (DB true S n cap M vo ops vk torn)) := hB
  clear hB
  go_enter Tryd.func24, Tryd.ntmps24
  go_wp2_with fail
  refine (ready_any HB.out hn).mono ?_
  rintro e w1 ⟨rfl, hw⟩; subst hw
  simp only [if_true]
  go_wp2
  go_ret
  exact ⟨rfl, rfl⟩
set_option maxHeartbeats 1000000 in
set_option maxRecDepth 100000 in
theorem write_full {S M cap : Nat} {vo vk : Value} {ops torn : Int} (hB : Blk w D 67 (DB true S n cap M vo ops vk torn)) (hn : 0 < n) (hm : n ≤ 4096) (p : Int) (hp : 0 ≤ p) (hp2 : p < 9223372036854775808) (a : Option Addr) (k cp : Nat) (hk : ((32 * n : Nat) : Int) - p < (k : Int)) :
    Calls Tryd.prog 24 #[.pointer (some ⟨D, 0, none⟩), .int .i64 p, .slice a k cp] w fun e w' => e = .returned (.int .i64 6) ∧ w' = w := by
  have HB : Hid (Blk w D 67 (DB true S n cap M vo ops vk torn)) := hB
  have HE : Hid (decide ((k : Int) ≤ ((32 * n : Nat) : Int) - p) = false) := (show _ = _ by simp; omega)
  clear hB hk
  go_enter Tryd.func24, Tryd.ntmps24
  go_wp2_with fail
  refine (ready_any HB.out hn).mono ?_
  rintro e w1 ⟨rfl, hw⟩; subst hw
  simp only [if_true]
  go_wp2_with fail
  refine (ends_any HB.out hn hm p k hp hp2).mono ?_
  rintro e w2 ⟨rfl, hw⟩; subst hw
  rw [HE.out]
  go_wp2
  go_ret
  exact ⟨rfl, rfl⟩
set_option maxHeartbeats 1000000 in
set_option maxRecDepth 100000 in
theorem write_none {S M cap : Nat} {vo vk : Value} {ops torn : Int} (hB : Blk w D 67 (DB true S n cap M vo ops vk torn)) (hn : 0 < n) (hm : n ≤ 4096) (p : Int) (hp : 0 ≤ p) (hp2 : p ≤ ((32 * n : Nat) : Int)) (a : Option Addr) (cp : Nat) :
    Calls Tryd.prog 24 #[.pointer (some ⟨D, 0, none⟩), .int .i64 p, .slice a 0 cp] w fun e w' => e = .returned (.int .i64 0) ∧ w' = w := by
  have HB : Hid (Blk w D 67 (DB true S n cap M vo ops vk torn)) := hB
  have HE : Hid (decide ((0 : Int) ≤ ((32 * n : Nat) : Int) - p) = true) := (show _ = _ by simp; omega)
  have hp3 : Hid (p < 9223372036854775808) := (show p < 9223372036854775808 by omega)
  clear hB hp2
  go_enter Tryd.func24, Tryd.ntmps24
  go_wp2_with fail
  refine (ready_any HB.out hn).mono ?_
  rintro e w1 ⟨rfl, hw⟩; subst hw
  simp only [if_true]
  go_wp2_with fail
  refine (ends_any HB.out hn hm p 0 hp hp3.out).mono ?_
  rintro e w2 ⟨rfl, hw⟩; subst hw
  rw [HE.out]
  go_wp2
  go_ret
  exact ⟨rfl, rfl⟩
theorem inB_off {v : Value} {b : Nat} : Off b v ↔ ¬ InB v b := by
  constructor
  · rintro h ⟨off, k, cp, e, hk⟩
    exact h b off k cp e hk rfl
  · intro h b' off k cp e hk e'
    subst e'
    exact h ⟨off, k, cp, e, hk⟩
theorem Wf.small {N : Nat} {s : St} (h : Wf n N s) (hn : n ≤ 4096) : N ≤ 4096 ∧ s.order.length ≤ 4096 := by
  have h1 : s.order.length ≤ n := by
    have := List.Nodup.length_le_of_subset h.nodup (l₂ := List.range n) (fun k hk => by simpa using h.low k hk)
    simpa using this
  have h2 := List.length_filter_le (fun j : Nat => (s.f j).isSome) s.order
  rw [h.cnt]
  omega
theorem chunk {e : DM} {p d q k o l L : Nat} {b : List UInt8} (he : e.now.length = 32 * n) (hd : d < b.length) (hq : p + d = q) (hpl : p + b.length ≤ 32 * n) (hk : k = q / 32) (ho : o = q % 32) (hl : ((b.drop d).take (32 - o)).length = l) (hL : b.length = L) :
    laid e p (b.take (d + l)) = { laid e p (b.take d) with now := spl (laid e p (b.take d)).now (32 * k + o) ((b.drop d).take (32 - o)), dirty := Pd.adds (laid e p (b.take d)).dirty k } ∧ o + l ≤ 32 ∧ 0 < l ∧ d + l ≤ L ∧ k < n := by
  have hlt : (b.take d).length = d := by rw [List.length_take]; omega
  rw [List.length_take, List.length_drop] at hl
  have e1 : b.take (d + l) = b.take d ++ (b.drop d).take (32 - o) := by
    rw [List.take_add]
    congr 1
    by_cases h : 32 - o ≤ b.length - d
    · rw [show l = 32 - o by omega]
    · rw [List.take_of_length_le (l := b.drop d) (by rw [List.length_drop]; omega), List.take_of_length_le (l := b.drop d) (by rw [List.length_drop]; omega)]
  have hx : ((b.drop d).take (32 - o)).length = l := by rw [List.length_take, List.length_drop]; exact hl
  refine ⟨?_, by omega, by omega, by omega, by omega⟩
  rw [e1, laid_more he (by rw [hlt, hx]; omega) (by rw [hx]; omega) (by rw [hlt, hx, hq]; omega), hlt, hq, hk, ho, Nat.div_add_mod]
/-- What Write comes to, if something is to be written. -/
def wrote (m : DM) (p : Nat) (b : List UInt8) : Nat × DM := match Pd.strike m with
  | (true, e) => (7, e)
  | (false, e) => (0, laid e p b)
theorem strike_off {m e : DM} (h : Pd.strike m = (false, e)) : e.off = m.off := by
  unfold Pd.strike at h
  split at h
  · cases h; rfl
  · split at h
    · cases h
    · cases h; rfl
set_option maxHeartbeats 2000000 in
set_option maxRecDepth 100000 in
theorem write_go {S M cap N : Nat} {vo vk : Value} {s : St} (hA : At w D S M n cap N vo vk s) (hW : Wf n N s) (hR : Rel n s m) (hon : m.off = false) (p : Nat) (v : Value) (b : List UInt8) (hr : Rd w v b) (hb0 : 0 < b.length) (hpl : p + b.length ≤ 32 * n)
    (hvk : ∀ x, InB vk x → x ≠ D ∧ x ≠ S ∧ x ≠ M ∧ vo.ownBlock ≠ some x) (hv : ∀ x, InB v x → x ≠ D ∧ x ≠ S ∧ x ≠ M ∧ vo.ownBlock ≠ some x) :
    Calls Tryd.prog 24 #[.pointer (some ⟨D, 0, none⟩), .int .i64 (p : Int), v] w fun e w' => e = .returned (.int .i64 ((wrote m p b).1 : Int)) ∧ Chg (fun k => k = D ∨ k = S ∨ k = M ∨ vo.ownBlock = some k) w w' ∧ ∃ N' vo' vk' s', At w' D S M n cap N' vo' vk' s' ∧ Wf n N' s' ∧ Rel n s' (wrote m p b).2 ∧ (∀ x, vo'.ownBlock = some x → vo.ownBlock = some x ∨ w.heap.size ≤ x) ∧ (vk' = vk ∨ vk' = .slice none 0 0) := by
  have HA : Hid (At w D S M n cap N vo vk s) := hA
  have HW : Hid (Wf n N s) := hW
  have HR : Hid (Rel n s m) := hR
  have HRD : Hid (Rd w v b) := hr
  have HVK : Hid (∀ x, InB vk x → x ≠ D ∧ x ≠ S ∧ x ≠ M ∧ vo.ownBlock ≠ some x) := hvk
  have HV : Hid (∀ x, InB v x → x ≠ D ∧ x ≠ S ∧ x ≠ M ∧ vo.ownBlock ≠ some x) := hv
  have hso : s.on = true := by rw [hR.on, hon]; rfl
  have hdd := hA.d
  rw [hso] at hdd
  have HD : Hid (Blk w D 67 (DB true S n cap M vo s.ops vk s.torn)) := hdd
  have hp := hA.pos
  have hn := hA.max
  obtain ⟨a, cp, rfl, h1, h2, h3, h4⟩ := hr
  clear hA hW hR hvk hv hdd h3 h4
  obtain ⟨L, HL⟩ : ∃ L, Hid (b.length = L) := ⟨_, rfl⟩
  have hpl' : p + L ≤ 32 * n := by rw [← HL.out]; exact hpl
  have hL0 : 0 < L := by rw [← HL.out]; exact hb0
  rw [HL.out] at h1 HRD HV ⊢
  have HE : Hid (decide ((L : Int) ≤ ((32 * n : Nat) : Int) - (p : Int)) = true) := (show _ = _ by simp; omega)
  have q1 : ((L : Int) == 0) = false := by simp; omega
  have HFA : Hid _ := fails_any HA.out HW.out HR.out hon (fun x hx => ⟨(HVK.out x hx).1, (HVK.out x hx).2.1, (HVK.out x hx).2.2.1⟩)
  clear hpl hb0
  obtain ⟨r, HRC⟩ : ∃ r, Hid (wrote m p b = r) := ⟨_, rfl⟩
  rw [HRC.out]
  go_enter Tryd.func24, Tryd.ntmps24
  go_wp2_with fail
  refine (ready_any HD.out hp).mono ?_
  rintro e w1 ⟨rfl, hw⟩; subst hw
  simp only [if_true]
  have q0 : ¬ (p : Int) < 0 := by omega
  go_wp2_with fail
  refine (ends_any HD.out hp hn p L (by omega) (by omega)).mono ?_
  rintro e w2 ⟨rfl, hw⟩; subst hw
  rw [HE.out]
  clear HE
  go_wp2_with fail
  refine Calls.mono HFA.out ?_
  clear HFA
  rintro e w3 ⟨rfl, u3, f3, t3⟩
  have U3 : Hid (Chg (fun k => k = D ∨ k = S ∨ k = M ∨ vo.ownBlock = some k) w2 w3) := u3.mono (fun _ _ e => by rcases e with e | e | e; exact .inl e; exact .inr (.inl e); exact .inr (.inr (.inl e)))
  cases hs : Pd.strike m with
  | mk x e =>
    rw [hs] at f3 t3
    cases x with
    | true =>
      obtain ⟨s', hA', hW', hR'⟩ := t3 rfl
      have A3 : Hid _ := hA'
      have W3 : Hid _ := hW'
      have R3 : Hid _ := hR'
      have HE : Hid (r = (7, e)) := (show _ = _ by rw [← HRC.out]; unfold wrote; rw [hs])
      clear f3 t3 u3 hA' hW' hR' hs
      go_wp2
      go_ret
      rw [HE.out]
      exact ⟨rfl, U3.out, 0, .slice none 0 0, .slice none 0 0, s', A3.out, W3.out, R3.out, fun x hx => (by cases hx), .inr rfl⟩
    | false =>
      obtain ⟨s', hA', hW', hR'⟩ := f3 rfl
      have A3 : Hid (At w3 D S M n cap N vo vk s') := hA'
      have W3 : Hid (Wf n N s') := hW'
      have R3 : Hid (Rel n s' e) := hR'
      have HE : Hid (r = (0, laid e p b)) := (show _ = _ by rw [← HRC.out]; unfold wrote; rw [hs])
      have HOF : Hid (e.off = false) := (show _ = _ by rw [strike_off hs]; exact hon)
      clear f3 t3 u3 hA' hW' hR' hs
      have HRD3 : Hid (Rd w3 (.slice a L cp) b) := HRD.out.chg U3.out (fun x hx e => by
        obtain ⟨k1, k2, k3, k4⟩ := HV.out x hx
        rcases e with e | e | e | e
        · exact k1 e
        · exact k2 e
        · exact k3 e
        · exact k4 e)
      go_wp2_with fail
      go_loopg [1, 2] L (fun g x y wr => ∃ d : Nat, g + d = L ∧ x = .int .i64 ((p + d : Nat) : Int) ∧ ∃ ad cd, y = .slice ad (L - d) cd ∧ L - d ≤ cd ∧ Hid (Rd wr (.slice ad (L - d) cd) (b.drop d)) ∧ Hid (∀ x, InB (.slice ad (L - d) cd) x → InB (.slice a L cp) x) ∧
        ∃ Nr vr sr, Hid (At wr D S M n cap Nr vr vk sr) ∧ Hid (Wf n Nr sr) ∧ Hid (Rel n sr (laid e p (b.take d))) ∧ Hid (∀ x, vr.ownBlock = some x → vo.ownBlock = some x ∨ w2.heap.size ≤ x) ∧ Hid (Chg (fun k => k = D ∨ k = S ∨ k = M ∨ vo.ownBlock = some k) w2 wr))
      case atStart => exact ⟨0, by omega, rfl, a, cp, rfl, h1, HRD3, fun x hx => hx, N, vo, s', A3, W3, (show Rel _ _ _ by rw [List.take_zero, laid_nil]; exact R3.out), fun x hx => .inl hx, U3⟩
      case round =>
        obtain ⟨d, hgd, rfl, ad, cd, rfl, hcd, RR, IB, Nr, vr, sr, AR, WR, RLR, VR, UR⟩ := hrel
        by_cases hlt : d < L
        · have q2 : (0 : Int) < ((L - d : Nat) : Int) := by omega
          have HLAY : Hid _ := lay_any AR.out (WR.out.small hn).1 (WR.out.small hn).2 (p + d) (by omega) (.slice ad (L - d) cd) (b.drop d) RR.out (fun x hx => ⟨(HVK.out x hx).1, fun e => by
            rcases VR.out x e with e | e
            · exact (HVK.out x hx).2.2.2 e
            · have := HA.out.kp.inB_lt hx; omega⟩)
          go_wp2_with fail
          refine Calls.mono HLAY.out ?_
          rintro e4 w4 ⟨rfl, vr', N', a4, rfl, u4, v4⟩
          obtain ⟨q, HQ⟩ : ∃ q, Hid (p + d = q) := ⟨_, rfl⟩
          obtain ⟨k, HK⟩ : ∃ k, Hid (k = q / 32) := ⟨_, rfl⟩
          obtain ⟨o, HO⟩ : ∃ o, Hid (o = q % 32) := ⟨_, rfl⟩
          rw [HQ.out, ← HK.out, ← HO.out] at a4
          rw [HQ.out, ← HO.out]
          obtain ⟨l, HLL⟩ : ∃ l, Hid (((b.drop d).take (32 - o)).length = l) := ⟨_, rfl⟩
          rw [HLL.out]
          obtain ⟨e5, k1, k2, k3, k4⟩ := chunk (e := e) R3.out.ok.now (by rw [HL.out]; exact hlt) HQ.out (by rw [HL.out]; exact hpl') HK.out HO.out HLL.out HL.out
          have A4 : Hid (At w4 D S M n cap (cntS sr.f k Nr) vr' vk (layS sr k o ((b.drop d).take (32 - o)))) := a4
          have hRW := RLR.out.lay WR.out HOF.out k o ((b.drop d).take (32 - o)) k4 (by rw [HLL.out]; exact k1)
          rw [← e5] at hRW
          have R4 : Hid (Rel n (layS sr k o ((b.drop d).take (32 - o))) (laid e p (b.take (d + l)))) := hRW.1
          have W4 : Hid (Wf n (cntS sr.f k Nr) (layS sr k o ((b.drop d).take (32 - o)))) := hRW.2
          have U4 : Hid (Chg (fun k => k = D ∨ k = S ∨ k = M ∨ vo.ownBlock = some k) w2 w4) := UR.out.then u4 (fun x hx e => by
            rcases e with e | e | e
            · exact .inl e
            · exact .inr (.inr (.inl e))
            · rcases VR.out x e with e | e
              · exact .inr (.inr (.inr e))
              · omega)
          have V4 : Hid (∀ x, vr'.ownBlock = some x → vo.ownBlock = some x ∨ w2.heap.size ≤ x) := fun x hx => by
            rcases v4 x hx with e | e
            · exact VR.out x e
            · exact .inr (Nat.le_trans UR.out.size e)
          have RD4 : Hid (Rd w4 (.slice ad (L - d) cd) (b.drop d)) := RR.out.chg u4 (fun x hx e => by
            obtain ⟨j1, j2, j3, j4⟩ := HV.out x (IB.out x hx)
            rcases e with e | e | e
            · exact j1 e
            · exact j3 e
            · rcases VR.out x e with e | e
              · exact j4 e
              · have := HRD.out.inB_lt (IB.out x hx)
                omega)
          obtain ⟨ad', hs2, H2, H3⟩ := slice_from Tryd.underlying33 Tryd.size5 ad (L - d) cd l (by omega) hcd
          have H2 : Hid _ := H2
          have H3 : Hid _ := H3
          clear a4 u4 v4 hRW e5 RR AR WR RLR VR UR HLAY
          go_upto_region 14 with fail
          have q3 : (l : Int) ≤ ((L - d : Nat) : Int) := by omega
          go_region
          go_wp2_with fail
          go_roundg (gk - l)
          case measure => omega
          case rel =>
            refine ⟨d + l, by omega, by rw [show ((p + (d + l) : Nat) : Int) = (p : Int) + (d : Int) + (l : Int) by omega], ad', cd - l, by rw [show L - (d + l) = L - d - l by omega], by omega, ?_, ?_, cntS sr.f k Nr, vr', _, A4.out.drew, W4, R4, V4, U4.out.trans (Chg.drew _ _)⟩
            · show Rd _ _ _
              have h := H2.out w4.drew (b.drop d) (RD4.out.chg (F := fun _ => False) (Chg.drew _ _) (fun _ _ => id))
              rw [List.drop_drop] at h
              rw [show L - (d + l) = L - d - l by omega]
              exact h
            · show ∀ x, _
              intro x hx
              rw [show L - (d + l) = L - d - l by omega] at hx
              refine IB.out x ?_
              by_cases hh : InB (.slice ad (L - d) cd) x
              · exact hh
              · exact absurd hx (inB_off.1 (H3.out w4 (b.drop d) x RD4.out (inB_off.2 hh)))
        · obtain rfl : d = L := by omega
          have RF : Hid (Rel n sr (laid e p b)) := (show Rel _ _ _ by
            have := RLR.out
            rwa [← HL.out, List.take_length] at this)
          go_wp2_with fail
          go_ret
          rw [HE.out]
          exact ⟨rfl, UR.out, Nr, vr, vk, sr, AR.out, WR.out, RF.out, VR.out, .inl rfl⟩
theorem dWrite_any (h : IsD w c i D n m) (hc : ∀ k, w.heap.size ≤ k → c k = 0) (p : Int) (hpw : (Lit.int .i64 p).wf = true) (v : Value) (b : List UInt8) (hr : Rd w v b) (hv : Cool c v) :
    Calls Tryd.prog 24 #[.pointer (some ⟨D, 0, none⟩), .int .i64 p, v] w fun e w' => e = .returned (.int .i64 ((Pd.write m p b).1 : Int)) ∧ ∃ c', IsD w' c' i D n (Pd.write m p b).2 ∧ Step c i w c' w' := by
  obtain ⟨S, M, cap, N, vo, vk, s, hA, hW, hR, h1, h2, h3, h4, h5, h6⟩ := h
  have hsame : ∀ w', w' = w → ∃ c', IsD w' c' i D n m ∧ Step c i w c' w' := fun w' e => ⟨c, ⟨S, M, cap, N, vo, vk, s, by rw [e]; exact hA, hW, hR, h1, h2, h3, h4, h5, h6⟩, by rw [e]; exact ⟨Chg.refl _ _, fun _ _ => rfl, hc⟩⟩
  have bd := bounds_i64 hpw
  have hon := hR.on
  have hnow := hR.ok.now
  have hpos := hA.pos
  have hmax := hA.max
  cases ho : m.off with
  | true =>
    rw [ho] at hon
    have e1 : Pd.write m p b = (7, m) := by unfold Pd.write; rw [ho]; rfl
    rw [e1]
    have hd := hA.d
    rw [hon] at hd
    refine (write_off hd hA.pos p v).mono ?_
    rintro e w' ⟨rfl, hw⟩
    exact ⟨rfl, hsame w' hw⟩
  | false =>
    rw [ho] at hon
    have hd := hA.d
    rw [hon] at hd
    by_cases hp : p < 0
    · have e1 : Pd.write m p b = (2, m) := by unfold Pd.write; rw [ho, if_neg (by simp), if_pos hp]
      rw [e1]
      refine (write_neg hd hA.pos p hp v).mono ?_
      rintro e w' ⟨rfl, hw⟩
      exact ⟨rfl, hsame w' hw⟩
    · obtain ⟨a, cp, rfl⟩ := hr.slice
      by_cases hf : (m.now.length : Int) < p ∨ (m.now.length : Int) - p < b.length
      · have e1 : Pd.write m p b = (6, m) := by unfold Pd.write; rw [ho, if_neg (by simp), if_neg hp, if_pos hf]
        rw [e1]
        refine (write_full hd hpos hmax p (by omega) (by omega) a b.length cp (by omega)).mono ?_
        rintro e w' ⟨rfl, hw⟩
        exact ⟨rfl, hsame w' hw⟩
      · by_cases hb : b = []
        · have e1 : Pd.write m p b = (0, m) := by unfold Pd.write; rw [ho, if_neg (by simp), if_neg hp, if_neg hf, if_pos hb]
          rw [e1]
          subst hb
          refine (write_none hd hpos hmax p (by omega) (by omega) a cp).mono ?_
          rintro e w' ⟨rfl, hw⟩
          exact ⟨rfl, hsame w' hw⟩
        · have e1 : Pd.write m p b = wrote m p.toNat b := by unfold Pd.write wrote; rw [ho, if_neg (by simp), if_neg hp, if_neg hf, if_neg hb]; rfl
          rw [e1]
          have hpp : p = ((p.toNat : Nat) : Int) := by omega
          have hb0 : 0 < b.length := List.length_pos_iff.2 hb
          have apart : ∀ x, c x = 0 → x ≠ D ∧ x ≠ S ∧ x ≠ M ∧ vo.ownBlock ≠ some x := fun x hx => ⟨fun e => h6 (by rw [← h1, ← e]; exact hx), fun e => h6 (by rw [← h2, ← e]; exact hx), fun e => h6 (by rw [← h3, ← e]; exact hx), fun e => h6 ((h4 x e).symm.trans hx)⟩
          have := write_go hA hW hR ho p.toNat _ b hr hb0 (by omega) (fun x hx => apart x (h5 x hx)) (fun x hx => apart x (hv x hx))
          rw [← hpp] at this
          refine this.mono ?_
          rintro e w' ⟨rfl, hU, N', vo', vk', s', hA', hW', hR', hvo, hvk⟩
          have hU' : Chg (fun k => c k = i) w w' := hU.mono (fun k _ e => by
            rcases e with e | e | e | e
            · rw [e]; exact h1
            · rw [e]; exact h2
            · rw [e]; exact h3
            · exact h4 k e)
          refine ⟨rfl, paint c w w' i, ⟨S, M, cap, N', vo', vk', s', hA', hW', hR', (paint_old hA.d.lt).trans h1, (paint_old hA.sf.lt).trans h2, (paint_old hA.mp.lt).trans h3, fun x hx => ?_, fun x hx => ?_, h6⟩, Step.of_paint hU'⟩
          · rcases hvo x hx with e | e
            · exact (paint_old (own_lt hA.od e)).trans (h4 x e)
            · exact paint_new e (own_lt hA'.od hx)
          · rcases hvk with rfl | rfl
            · exact (paint_old (hA.kp.inB_lt hx)).trans (h5 x hx)
            · exact absurd hx (InB_nil x)
end
end Go.Proofs.YtgdhjgfoalianaaDoor

/-
  A region that draws its order, one of whose operations writes, and whose last one stores to a slot that others read.
-/
namespace Go.Proofs.YtgdhjgfoalianaaDoor
open Go.RowKit
/-- Does operation z wait for all others? -/
def allB (ops : Array Oper) (z : Nat) : Bool := match ops[z]? with
  | some o => (List.range ops.size).all fun j => j == z || o.after.any fun e => Region.binds .any e && e.on == j
  | none => false
/-- Slots that none but z writes. -/
def freeZ (ops : Array Oper) (z t : Nat) : Bool := (List.range ops.size).all fun j => j == z || (match ops[j]? with | some o => o.dst != some t | none => true)
/-- What stands in the slots while z is still to come. -/
def KeptZ (ops : Array Oper) (z : Nat) (a0 a : Act) : Prop := ∀ t : Nat, freeZ ops z t = true → a.eval (.tmp t) = a0.eval (.tmp t)
/-- What an operation finds. -/
def Finds (ops : Array Oper) (V : Nat → Value) (o : Oper) (a : Act) : Prop := ∀ j d, depB ops o.after j d = true → a.eval (.tmp d) = V j
structure PJ (ops : Array Oper) (V : Nat → Value) (A B : World → Prop) (k z : Nat) (a0 : Act) (l : Nat → Bool) (a : Act) (w : World) : Prop where
  vals : ∀ (i : Nat) (o : Oper) (d : Nat), ops[i]? = some o → l i = true → o.dst = some d → a.eval (.tmp d) = V i
  kept : l z = false → KeptZ ops z a0 a
  all : l z = true → ∀ j, j < ops.size → l j = true
  pre : l k = false → A w
  post : l k = true → B w
theorem wp_region_pivot {P : Program} {id : Nat} {ops : Array Oper} {Q : Exit → Act → World → Prop} {a0 : Act} {w : World} (hm : P.follows .mixedOrders = true) (V : Nat → Value) (A B : World → Prop) (k z : Nat)
    (n : Nat) (hn : a0.tmps.size = n) (hf : formB ops n = true) (hz : allB ops z = true) (h0 : ∀ w', w'.heap = w.heap → Gr w w' → A w')
    (hstep : AllFrom (fun i o => o.guard = none ∧ (i ≠ k → ∀ a w', KeptZ ops z a0 a → Finds ops V o a → (execOp a.eval o).run P w' = .ok (.value (V i)) w') ∧
      (i = k → ∀ a w', KeptZ ops z a0 a → Finds ops V o a → A w' → o.wp P a w' (fun a' w'' => a' = a.put o.dst (V i) ∧ B w'') Q)) 0 ops.toList)
    (hQ : ∀ a w', a.tmps.size = a0.tmps.size → a.defers = a0.defers → Kept ops a0 a → (∀ (i : Nat) (o : Oper) (d : Nat), ops[i]? = some o → o.dst = some d → a.eval (.tmp d) = V i) → B w' → Q .normal a w')
    (hk : k < ops.size) : (Code.region id ops true).wp P Q a0 w := by
  have hzw : ∀ (o : Oper) (l : Nat → Bool), ops[z]? = some o → waitsB o l = true → ∀ j, j < ops.size → j ≠ z → l j = true := by
    intro o l ho hw j hj hne
    unfold allB at hz
    rw [ho] at hz
    have := List.all_eq_true.1 hz j (by simpa using hj)
    simp only [Bool.or_eq_true, beq_iff_eq] at this
    rcases this with h | h
    · exact absurd h hne
    · exact waitsB_at hw j h
  refine wp_region_J hm (PJ ops V A B k z a0) n hn hf ?_ ?_ ?_
  · intro w' hh hg
    exact ⟨fun i o d _ h => by simp at h, fun _ t _ => rfl, fun h => by simp at h, fun _ => h0 w' hh hg, fun h => by simp at h⟩
  · intro i o ho l a w1 hJ ht hd hkp hli hw
    have hs := AllFrom.at hstep (i := i) (o := o) (by simpa using ho)
    rw [Nat.zero_add] at hs
    have hi : i < ops.size := (Array.getElem?_eq_some_iff.1 ho).1
    have hlz : l z = false := by
      cases h : l z with
      | false => rfl
      | true => rw [hJ.all h i hi] at hli; cases hli
    have hfinds : Finds ops V o a := by
      intro j d hb
      unfold depB at hb
      rw [Bool.and_eq_true] at hb
      have hlj := waitsB_at hw j hb.1
      cases hoj : ops[j]? with
      | none => rw [hoj] at hb; simp at hb
      | some oj =>
        rw [hoj] at hb
        exact hJ.vals j oj d hoj hlj (by simpa using hb.2)
    have next : ∀ w2, ((l k || k == i) = false → A w2) → ((l k || k == i) = true → B w2) → PJ ops V A B k z a0 (fun j => l j || j == i) (a.put o.dst (V i)) w2 := by
      intro w2 hA hB
      refine ⟨fun j oj d hoj hl hdj => ?_, fun h t hft => ?_, fun h j hj => ?_, hA, hB⟩
      · by_cases hji : j = i
        · subst hji
          rw [ho] at hoj
          simp only [Option.some.injEq] at hoj
          subst hoj
          rw [hdj, eval_put_same (by rw [ht]; exact ((formB_spec hf ho).2 d hdj).1)]
        · rw [eval_put_other (fun e => hji (formB_ne hf hoj ho hdj e))]
          exact hJ.vals j oj d hoj (by simpa [hji] using hl) hdj
      · simp only [Bool.or_eq_false_iff, beq_eq_false_iff_ne] at h
        have hne : o.dst ≠ some t := by
          unfold freeZ at hft
          have := List.all_eq_true.1 hft i (by simpa using hi)
          rw [ho] at this
          simp only [Bool.or_eq_true, beq_iff_eq, bne_iff_ne] at this
          rcases this with h' | h'
          · exact absurd h'.symm h.2
          · exact h'
        rw [eval_put_other hne]
        exact hJ.kept hlz t hft
      · by_cases hji : j = i
        · simp [hji]
        · have hzi : z = i := by
            by_cases e : z = i
            · exact e
            · have : l z = true := by simpa [e] using h
              rw [hlz] at this; cases this
          subst hzi
          have := hzw o l ho hw j hj hji
          simp [this]
    refine ⟨hs.1, ?_⟩
    by_cases hik : i = k
    · subst hik
      refine Oper.wp_mono ?_ (hs.2.2 rfl a w1 (hJ.kept hlz) hfinds (hJ.pre hli))
      rintro a' w2 ⟨rfl, hB⟩
      exact ⟨V i, rfl, next w2 (fun h => by simp at h) (fun _ => hB)⟩
    · have hr := hs.2.1 hik a w1 (hJ.kept hlz) hfinds
      unfold Oper.wp
      rw [hr, Oper.upon_value]
      have hki : ¬ k = i := fun e => hik e.symm
      have e : (l k || k == i) = l k := by simp [hki]
      exact ⟨V i, rfl, next w1 (fun h => hJ.pre (by rw [← e]; exact h)) (fun h => hJ.post (by rw [← e]; exact h))⟩
  · intro l a w1 hall hJ ht hd hkp
    exact hQ a w1 (ht.trans hn.symm) hd hkp (fun i o d ho hdst => hJ.vals i o d ho (hall i (Array.getElem?_eq_some_iff.1 ho).1) hdst) (hJ.post (hall k hk))
end Go.Proofs.YtgdhjgfoalianaaDoor

/-
  (*disk.Disk).Read: what the call does.
-/
namespace Go.Proofs.YtgdhjgfoalianaaDoor
open Go.RowKit
open Pd (spl spl_length spl_get clip clip_le DM)
theorem wp_copy_bytes {P : Program} {w : World} {o : Oper} {a : Act} {K : Act → World → Prop} {Q : Exit → Act → World → Prop} (d s : Operand) (dT sT : TypeId)
    (ho : o.op = .call { callee := .builtin .copy, args := #[d, s], argTypes := #[dT, sT] }) (elem : TypeId) (hu : P.underlying dT = some (.slice elem)) (hsz : (P.info? elem).map (·.size) = some 1)
    (b off dLen dCap : Nat) (v : Value) (l : List UInt8) (hd : a.eval d = .slice (some ⟨b, off, none⟩) dLen dCap) (hs : a.eval s = v) (hr : Rd w v l) (X : List UInt8) (c : Nat) (hX : l.take dLen = X) (hXc : X.length = c) (hc0 : 0 < c)
    (T : TypeId) (cs : List Value) (hB : Blk w b T cs) (hfit : off + dLen ≤ cs.length)
    (h : K (a.put o.dst (goInt c)) (w.setCells b off (By X))) : o.wp P a w K Q := by
  subst hX hXc
  obtain ⟨ad, cap, rfl, h1, h2, h3, h4⟩ := hr
  have hp : 0 < l.length := by rw [List.length_take] at hc0; omega
  obtain ⟨c, of, rfl, hlt, hc⟩ := h4 hp
  have hlen : (By (l.take dLen)).length = Nat.min l.length dLen := by rw [By_length, List.length_take, Nat.min_comm]
  have hmin : Nat.min l.length dLen ≤ dLen := Nat.min_le_right _ _
  have hrun := run_copy_cells (P := P) w dT sT o.type elem b off dLen dCap ⟨c, of, none⟩ l.length cap (By (l.take dLen)) hu hsz hlen
    (fun j v hj => by
      rw [Addr.add_mid]
      refine hc j v ?_
      have hj' : j < (l.take dLen).length := by have := (List.getElem?_eq_some_iff.1 hj).1; rwa [By_length] at this
      rw [← hj, By, By, List.map_take, List.getElem?_take_of_lt (by rw [List.length_take] at hj'; omega)])
    (fun j hj => by rw [hB.cell (v := cs[off + j]'(by omega)) (by simp)]; rfl) (fun j _ => hB.frozen _) (By_one _)
  unfold Oper.wp
  simp [execOp, ho, resolve, invoke, builtin, hd, hs, hrun, Result.andThen]
  rw [By_length]
  exact h
theorem rd_secFrom {w : World} {C : Nat} {T : TypeId} {y : List UInt8} (h : Blk w C T (By y)) (hy : y.length = 32) {o : Nat} (ho : o < 32) : Rd w (.slice (some ⟨C, o, none⟩) (32 - o) (32 - o)) (y.drop o) := by
  have hl : (y.drop o).length = 32 - o := by rw [List.length_drop, hy]
  refine ⟨_, 32 - o, by rw [hl], by omega, by unfold maxLen; omega, fun h => by simp at h, fun _ => ⟨C, o, rfl, h.lt, fun j u hj => ?_⟩⟩
  refine h.cell ?_
  rw [← hj]
  simp [By, List.map_drop, List.getElem?_drop]
theorem read_over {w : World} {G : Nat} {X Y : List UInt8} {d k l : Nat} (h : Blk w G 5 (By (X.take d ++ List.replicate (k - d) 0))) (hd : (X.take d).length = d) (hY : X.take (d + l) = X.take d ++ Y) (hl : Y.length = l) (hk : d + l ≤ k) :
    Blk (w.setCells G d (By Y)) G 5 (By (X.take (d + l) ++ List.replicate (k - (d + l)) 0)) := by
  have := Blk.over (By Y) h d (by rw [By_length, By_length, List.length_append, List.length_replicate, hd]; omega)
  rw [By_over] at this
  have e : spl (X.take d ++ List.replicate (k - d) 0) d Y = X.take (d + l) ++ List.replicate (k - (d + l)) 0 := by
    unfold Pd.spl
    rw [hY, List.take_append_of_le_length (by omega), List.take_of_length_le (by omega), List.drop_append, hd, List.drop_eq_nil_of_le (by omega), List.nil_append, List.drop_replicate, hl]
    congr 2
    omega
  rw [e] at this
  exact this
theorem slice_at (G k d : Nat) (hd : d < k) (W : World) : (Instr.sliceAt 33 (.slice (some ⟨G, 0, none⟩) k k) (some (.int .i64 (d : Int))) none none).run Tryd.prog W = .ok (.slice (some ⟨G, d, none⟩) (k - d) (k - d)) W := by
  have h1 : (d : Int) ≤ (k : Int) := by omega
  have h2 : ¬ k = d := by omega
  have hsz := Tryd.size5
  cases hq : Tryd.prog.info? 5 with
  | none => simp [hq] at hsz
  | some i =>
    have hi1 : i.size = 1 := by simpa [hq] using hsz
    simp [Instr.sliceAt, Instr.slice, run_underlying Tryd.underlying33, Instr.sliceBounds, run_sliceBound, h1, h2, sizeOf, typeInfo, hq, hi1, Addr.add_lit]
theorem sec_chunk {now : List UInt8} {p k d l q o : Nat} (hl : l = min (k - d) (32 - o)) (hq : (p + d) / 32 = q) (ho : (p + d) % 32 = o) : (((now.drop p).take k).drop d).take l = ((sec now q).drop o).take (k - d) := by
  apply List.ext_getElem?
  intro j
  by_cases hj : j < l
  · unfold sec
    rw [List.getElem?_take_of_lt hj, List.getElem?_drop, List.getElem?_take_of_lt (by omega), List.getElem?_drop, List.getElem?_take_of_lt (by omega), List.getElem?_drop, List.getElem?_take_of_lt (by omega), List.getElem?_drop]
    congr 1
    omega
  · rw [List.getElem?_eq_none (by rw [List.length_take]; omega), List.getElem?_eq_none (by unfold sec; rw [List.length_take, List.length_drop, List.length_take]; omega)]
section
variable {w : World} {c : Nat → Nat} {i D n : Nat} {m : DM}
set_option maxHeartbeats 2000000 in
set_option maxRecDepth 100000 in
theorem read_go {S M cap N : Nat} {vo vk : Value} {s : St} (hA : At w D S M n cap N vo vk s) (hW : Wf n N s) (hR : Rel n s m) (hon : m.off = false) (p k : Nat) (hpk : p + k ≤ 32 * n) :
    Calls Tryd.prog 34 #[.pointer (some ⟨D, 0, none⟩), .int .i64 (p : Int), .int .i64 (k : Int)] w fun e w' => ∃ v, e = .returned (.tuple #[v, .int .i64 0]) ∧ Rd w' v ((m.now.drop p).take k) ∧ (∀ x, InB v x → w.heap.size ≤ x) ∧ Below w.heap.size w w' := by
  have HA : Hid (At w D S M n cap N vo vk s) := hA
  have HW : Hid (Wf n N s) := hW
  have HR : Hid (Rel n s m) := hR
  have hso : s.on = true := by rw [hR.on, hon]; rfl
  have hdd := hA.d
  rw [hso] at hdd
  have HD : Hid (Blk w D 67 (DB true S n cap M vo s.ops vk s.torn)) := hdd
  have hp := hA.pos
  have hn := hA.max
  have HAD : Hid (D < w.heap.size) := hA.d.lt
  have HAS : Hid (S < w.heap.size) := hA.sf.lt
  have HAM : Hid (M < w.heap.size) := hA.mp.lt
  have HXl : Hid (((m.now.drop p).take k).length = k) := (show _ = _ by rw [List.length_take, List.length_drop, hR.ok.now]; omega)
  clear hA hW hR hdd
  have HE : Hid (decide ((k : Int) ≤ ((32 * n : Nat) : Int) - (p : Int)) = true) := (show _ = _ by simp; omega)
  have q0 : decide ((p : Int) < 0) = false := by simp
  have q1 : decide ((k : Int) < 0) = false := by simp
  obtain ⟨X, HX⟩ : ∃ X, Hid ((m.now.drop p).take k = X) := ⟨_, rfl⟩
  rw [HX.out] at HXl ⊢
  obtain ⟨i0, hi0, hz0, hz1, hz2⟩ := info_parts Tryd.info5
  have hz := zeroS
  obtain ⟨Z, HZ⟩ : ∃ Z, Hid (By Zs = Z) := ⟨_, rfl⟩
  rw [HZ.out] at hz
  have hzl : Z.length = 32 := by rw [← HZ.out]; rfl
  go_enter Tryd.func34, Tryd.ntmps34
  go_wp2_with fail
  refine (ready_any HD.out hp).mono ?_
  rintro e w1 ⟨rfl, hw⟩; subst hw
  simp only [if_true]
  go_wp2_with fail
  refine (ends_any HD.out hp hn p k (by omega) (by omega)).mono ?_
  rintro e w2 ⟨rfl, hw⟩; subst hw
  rw [HE.out]
  clear HE
  go_wp2_with (first
    | (at_make; refine wpList_make_bytes _ rfl _ _ 33 rfl i0 Tryd.underlying33 hi0 hz0 hz1 hz2 .i64 .i64 (k : Int) (k : Int) k k rfl rfl rfl rfl (Nat.le_refl _) (by omega) ?_)
    | fail)
  obtain ⟨G, HG⟩ : ∃ G, Hid (w2.heap.size = G) := ⟨_, rfl⟩
  rw [HG.out]
  obtain ⟨wa, hwa⟩ : ∃ x, x = w2.alloc (.cells (Array.replicate k (Value.int .u8 0)) 5 (0, 0)) := ⟨_, rfl⟩
  rw [← hwa]
  have GA : Hid (Blk wa G 5 (By (X.take 0 ++ List.replicate (k - 0) 0))) := (show Blk _ _ _ _ by
    have := Blk.new w2 5 (List.replicate k (Value.int .u8 0))
    rw [hwa, ← HG.out]
    simpa [By] using this)
  have LA : Hid (Below w2.heap.size w2 wa) := (show Below _ _ _ by rw [hwa]; exact (Below.refl _ _).alloc (Nat.le_refl _) _)
  have AA : Hid (At wa D S M n cap N vo vk s) := HA.out.kept LA.out
  have HGD : Hid (∀ x, ¬ x < w2.heap.size ∨ ¬ x = G) := fun x => by have := HG.out; omega
  clear hwa hi0 hz0 hz1 hz2
  go_loopg [10] k (fun g x wr => ∃ d : Nat, g + d = k ∧ x = .int .i64 (d : Int) ∧ Hid (Blk wr G 5 (By (X.take d ++ List.replicate (k - d) 0))) ∧ Hid (At wr D S M n cap N vo vk s) ∧ Hid (Below w2.heap.size w2 wr))
  case atStart => exact ⟨0, by omega, rfl, GA, AA, LA⟩
  case round =>
    obtain ⟨d, hgd, rfl, GR, AR, LR⟩ := hrel
    clear GA AA LA
    by_cases hlt : d < k
    · have q2 : (d : Int) < (k : Int) := by omega
      obtain ⟨q, HQ⟩ : ∃ q, Hid ((p + d) / 32 = q) := ⟨_, rfl⟩
      obtain ⟨o, HO⟩ : ∃ o, Hid ((p + d) % 32 = o) := ⟨_, rfl⟩
      have hqn : q < n := by have := HQ.out; omega
      have ho : o < 32 := by have := HO.out; omega
      have E1 : Hid (((p : Int) + (d : Int)) / 32 = (q : Int)) := (show _ = _ by have := HQ.out; omega)
      have E2 : Hid (((p : Int) + (d : Int)) % 32 = (o : Int)) := (show _ = _ by have := HO.out; omega)
      go_wp2_with fail
      rw [E1.out]
      refine (last_any AR.out q hqn).mono ?_
      rintro e w3' ⟨rfl, hb3⟩
      rw [HR.out.last HW.out q hqn]
      have hyl := sec_len HR.out.ok.now hqn
      obtain ⟨y, HYY⟩ : ∃ y, Hid (sec m.now q = y) := ⟨_, rfl⟩
      rw [HYY.out] at hyl ⊢
      have C1 : Hid (∀ u ∈ By y, u.oneCell' = true) := By_one y
      have HCl : (By y).length = 32 := by rw [By_length, hyl]
      obtain ⟨CL, HCL⟩ : ∃ CL, Hid (By y = CL) := ⟨_, rfl⟩
      rw [HCL.out] at C1 HCl ⊢
      have G2 : Hid (Blk w3' G 5 (By (X.take d ++ List.replicate (k - d) 0))) := GR.out.kept hb3
      have A2 : Hid (At w3' D S M n cap N vo vk s) := AR.out.kept hb3
      have L2 : Hid (Below w2.heap.size w2 w3') := LR.out.trans (hb3.mono LR.out.size)
      clear hb3
      obtain ⟨C, HC⟩ : ∃ C, Hid (w3'.heap.size = C) := ⟨_, rfl⟩
      go_upto_region 10 with (first
        | (refine wpList_store_new rfl 88 _ _ rfl w3' _ _ _ rfl rfl rfl (by simpa [HCl] using Tryd.size88) (by simp [hzl, HCl]) (all_one C1.out) ?_)
        | fail)
      rw [HC.out]
      obtain ⟨w3, hw3⟩ : ∃ x, x = w3'.alloc (.cells CL.toArray 88 (0, 0)) := ⟨_, rfl⟩
      rw [← hw3]
      have hb3 : Below w3'.heap.size w3' w3 := by rw [hw3]; exact (Below.refl _ _).alloc (Nat.le_refl _) _
      have G3 : Hid (Blk w3 G 5 (By (X.take d ++ List.replicate (k - d) 0))) := G2.out.kept hb3
      have A3 : Hid (At w3 D S M n cap N vo vk s) := A2.out.kept hb3
      have L3 : Hid (Below w2.heap.size w2 w3) := L2.out.trans (hb3.mono L2.out.size)
      have C3 : Hid (Blk w3 C 88 (By y)) := (show Blk _ _ _ _ by rw [hw3, ← HC.out, HCL.out]; exact Blk.new w3' 88 CL)
      clear hw3 hb3 G2 A2 L2
      obtain ⟨Y, HY⟩ : ∃ Y, Hid ((y.drop o).take (k - d) = Y) := ⟨_, rfl⟩
      obtain ⟨l, HYl⟩ : ∃ l, Hid (Y.length = l) := ⟨_, rfl⟩
      have HLL : Hid (l = min (k - d) (32 - o)) := (show _ = _ by rw [← HYl.out, ← HY.out, List.length_take, List.length_drop, hyl])
      have hl1 : 0 < l := by have := HLL.out; omega
      have hl2 : d + l ≤ k := by have := HLL.out; omega
      have hl3 : o + l ≤ 32 := by have := HLL.out; omega
      have HXd : Hid ((X.take d).length = d) := (show _ = _ by rw [List.length_take, HXl.out]; omega)
      have HYX : Hid (X.take (d + l) = X.take d ++ Y) := (show _ = _ by
        rw [List.take_add]
        congr 1
        rw [← HY.out, ← HX.out, ← HYY.out]
        exact sec_chunk HLL.out HQ.out HO.out)
      have hs1 : ∀ W, (Instr.sliceAt 33 (.slice (some ⟨G, 0, none⟩) k k) (some (.int .i64 (d : Int))) none none).run Tryd.prog W = .ok (.slice (some ⟨G, d, none⟩) (k - d) (k - d)) W := fun W => slice_at G k d hlt W
      have hs2 : ∀ W, (Instr.sliceAt 88 (.pointer (some ⟨C, 0, none⟩)) (some (.int .i64 (o : Int))) none none).run Tryd.prog W = .ok (.slice (some ⟨C, o, none⟩) (32 - o) (32 - o)) W := fun W => slice_sec C o ho W
      have HGB : Hid (w2.heap.size ≤ G) := (show _ ≤ _ by rw [HG.out]; exact Nat.le_refl _)
      refine wp_region_pivot Tryd.mixed (fun i_ => match i_ with | 0 | 2 | 5 => .int .i64 (d : Int) | 1 => .slice (some ⟨G, 0, none⟩) k k | 3 => .slice (some ⟨G, d, none⟩) (k - d) (k - d) | 4 => .int .i64 (p : Int) | 6 => .int .i64 ((p : Int) + (d : Int)) | 7 => .int .i64 (o : Int) | 8 => .slice (some ⟨C, o, none⟩) (32 - o) (32 - o) | 9 => .int .i64 (l : Int) | 10 | 11 => .int .i64 ((d : Int) + (l : Int)) | _ => undef) (fun w' => w'.heap = w3.heap ∧ Below w3.heap.size w3 w') (fun w' => Blk w' G 5 (By (X.take (d + l) ++ List.replicate (k - (d + l)) 0)) ∧ At w' D S M n cap N vo vk s ∧ Below w2.heap.size w2 w') 9 11 53 rfl (by decide +kernel) (by decide +kernel) ?_ ?_ ?_ (by decide)
      · exact fun w' h1 h2 => ⟨h1, h2⟩
      · refine AllFrom.cons ⟨rfl, ?_, ?_⟩ (AllFrom.cons ⟨rfl, ?_, ?_⟩ (AllFrom.cons ⟨rfl, ?_, ?_⟩ (AllFrom.cons ⟨rfl, ?_, ?_⟩ (AllFrom.cons ⟨rfl, ?_, ?_⟩ (AllFrom.cons ⟨rfl, ?_, ?_⟩ (AllFrom.cons ⟨rfl, ?_, ?_⟩ (AllFrom.cons ⟨rfl, ?_, ?_⟩ (AllFrom.cons ⟨rfl, ?_, ?_⟩ (AllFrom.cons ⟨rfl, ?_, ?_⟩ (AllFrom.cons ⟨rfl, ?_, ?_⟩ (AllFrom.cons ⟨rfl, ?_, ?_⟩ AllFrom.nil)))))))))))
        · -- 0: Op.move (Operand.tmp 10)
          intro _ a' w' hk hd
          have e10 : a'.eval (.tmp 10) = .int .i64 (d : Int) := hk 10 (by decide +kernel)
          simp only [execOp, e10]
          rfl
        · exact fun e => absurd e (by decide)
        · -- 1: Op.move (Operand.tmp 9)
          intro _ a' w' hk hd
          have e9 : a'.eval (.tmp 9) = .slice (some ⟨G, 0, none⟩) k k := hk 9 (by decide +kernel)
          simp only [execOp, e9]
          rfl
        · exact fun e => absurd e (by decide)
        · -- 2: Op.move (Operand.tmp 10)
          intro _ a' w' hk hd
          have e10 : a'.eval (.tmp 10) = .int .i64 (d : Int) := hk 10 (by decide +kernel)
          simp only [execOp, e10]
          rfl
        · exact fun e => absurd e (by decide)
        · -- 3: Op.slice 29 (Operand.tmp 42) (some (Operand.tmp 43)) none no
          intro _ a' w' hk hd
          have e42 : a'.eval (.tmp 42) = .slice (some ⟨G, 0, none⟩) k k := hd 1 42 (by decide +kernel)
          have e43 : a'.eval (.tmp 43) = .int .i64 (d : Int) := hd 2 43 (by decide +kernel)
          simp only [execOp, e42]
          simp only [Option.map_some, Option.map_none, e43, Sem.run_bind, hs1, Result.andThen_ok]
          rfl
        · exact fun e => absurd e (by decide)
        · -- 4: Op.move (Operand.tmp 1)
          intro _ a' w' hk hd
          have e1 : a'.eval (.tmp 1) = .int .i64 (p : Int) := hk 1 (by decide +kernel)
          simp only [execOp, e1]
          rfl
        · exact fun e => absurd e (by decide)
        · -- 5: Op.move (Operand.tmp 10)
          intro _ a' w' hk hd
          have e10 : a'.eval (.tmp 10) = .int .i64 (d : Int) := hk 10 (by decide +kernel)
          simp only [execOp, e10]
          rfl
        · exact fun e => absurd e (by decide)
        · -- 6: Op.binOp BinOp.add 3 (Operand.tmp 45) (Operand.tmp 46) 3
          intro _ a' w' hk hd
          have e45 : a'.eval (.tmp 45) = .int .i64 (p : Int) := hd 4 45 (by decide +kernel)
          have e46 : a'.eval (.tmp 46) = .int .i64 (d : Int) := hd 5 46 (by decide +kernel)
          clear hd hk
          simp only [execOp, e45, e46]
          go_simp
          rw [IntKind.wrap_i64]
          omega
        · exact fun e => absurd e (by decide)
        · -- 7: Op.binOp BinOp.rem 3 (Operand.tmp 47) (Operand.const (Value.
          intro _ a' w' hk hd
          have e47 : a'.eval (.tmp 47) = .int .i64 ((p : Int) + (d : Int)) := hd 6 47 (by decide +kernel)
          clear hd hk
          simp only [execOp, e47]
          go_simp
          exact E2.out
        · exact fun e => absurd e (by decide)
        · -- 8: Op.slice 68 (Operand.tmp 11) (some (Operand.tmp 48)) none no
          intro _ a' w' hk hd
          have e11 : a'.eval (.tmp 11) = .pointer (some ⟨C, 0, none⟩) := hk 11 (by decide +kernel)
          have e48 : a'.eval (.tmp 48) = .int .i64 (o : Int) := hd 7 48 (by decide +kernel)
          simp only [execOp, e11]
          simp only [Option.map_some, Option.map_none, e48, Sem.run_bind, hs2, Result.andThen_ok]
          rfl
        · exact fun e => absurd e (by decide)
        · exact fun e => absurd rfl e
        · -- 9: Op.call ( callee := Callee.builtin Builtin.copy, args := #[O
          intro _ a' w' hk hd hA
          have e44 : a'.eval (.tmp 44) = .slice (some ⟨G, d, none⟩) (k - d) (k - d) := hd 3 44 (by decide +kernel)
          have e49 : a'.eval (.tmp 49) = .slice (some ⟨C, o, none⟩) (32 - o) (32 - o) := hd 8 49 (by decide +kernel)
          obtain ⟨hh, hb⟩ := hA
          have G5 : Blk w' G 5 (By (X.take d ++ List.replicate (k - d) 0)) := G3.out.kept hb
          have C5 : Blk w' C 88 (By y) := C3.out.kept hb
          refine wp_copy_bytes (.tmp 44) (.tmp 49) 33 33 rfl 5 Tryd.underlying33 Tryd.size5 G d (k - d) (k - d) _ (y.drop o) e44 e49 (rd_secFrom C5 hyl (by omega)) Y l HY.out HYl.out (by omega) 5 _ G5 (by rw [By_length, List.length_append, List.length_replicate, HXd.out]; omega) ?_
          refine ⟨rfl, ?_, ?_, ?_⟩
          · exact read_over G5 HXd.out HYX.out HYl.out (by omega)
          · exact (A3.out.kept hb).chg (F := fun x => x = G) (Chg.of_but (But.setCells G _ _ _) rfl) (fun e => (HGD.out D).elim (fun h => h HAD.out) (fun h => h e)) (fun e => (HGD.out S).elim (fun h => h HAS.out) (fun h => h e)) (fun e => (HGD.out M).elim (fun h => h HAM.out) (fun h => h e)) (fun x hx e => (HGD.out x).elim (fun h => h (own_lt HA.out.od hx)) (fun h => h e)) (fun x hx e => (HGD.out x).elim (fun h => h (HA.out.kp.inB_lt hx)) (fun h => h e))
          · exact (L3.out.trans (hb.mono L3.out.size)).trans ((But.setCells G _ _ _).below HGB.out (by have := L3.out.size; have := hb.size; omega))
        · -- 10: Op.binOp BinOp.add 3 (Operand.tmp 41) (Operand.tmp 50) 3
          intro _ a' w' hk hd
          have e41 : a'.eval (.tmp 41) = .int .i64 (d : Int) := hd 0 41 (by decide +kernel)
          have e50 : a'.eval (.tmp 50) = .int .i64 (l : Int) := hd 9 50 (by decide +kernel)
          clear hd hk
          simp only [execOp, e41, e50]
          go_simp
          rw [IntKind.wrap_i64]
          omega
        · exact fun e => absurd e (by decide)
        · -- 11: Op.assign (Operand.tmp 51)
          intro _ a' w' hk hd
          have e51 : a'.eval (.tmp 51) = .int .i64 ((d : Int) + (l : Int)) := hd 10 51 (by decide +kernel)
          simp only [execOp, e51]
          rfl
        · exact fun e => absurd e (by decide)
      · intro a' w' hsz hdf hk hall hB
        have e41 : a'.eval (.tmp 41) = .int .i64 (d : Int) := hall 0 _ 41 rfl rfl
        have e42 : a'.eval (.tmp 42) = .slice (some ⟨G, 0, none⟩) k k := hall 1 _ 42 rfl rfl
        have e43 : a'.eval (.tmp 43) = .int .i64 (d : Int) := hall 2 _ 43 rfl rfl
        have e44 : a'.eval (.tmp 44) = .slice (some ⟨G, d, none⟩) (k - d) (k - d) := hall 3 _ 44 rfl rfl
        have e45 : a'.eval (.tmp 45) = .int .i64 (p : Int) := hall 4 _ 45 rfl rfl
        have e46 : a'.eval (.tmp 46) = .int .i64 (d : Int) := hall 5 _ 46 rfl rfl
        have e47 : a'.eval (.tmp 47) = .int .i64 ((p : Int) + (d : Int)) := hall 6 _ 47 rfl rfl
        have e48 : a'.eval (.tmp 48) = .int .i64 (o : Int) := hall 7 _ 48 rfl rfl
        have e49 : a'.eval (.tmp 49) = .slice (some ⟨C, o, none⟩) (32 - o) (32 - o) := hall 8 _ 49 rfl rfl
        have e50 : a'.eval (.tmp 50) = .int .i64 (l : Int) := hall 9 _ 50 rfl rfl
        have e51 : a'.eval (.tmp 51) = .int .i64 ((d : Int) + (l : Int)) := hall 10 _ 51 rfl rfl
        have e10 : a'.eval (.tmp 10) = .int .i64 ((d : Int) + (l : Int)) := hall 11 _ 10 rfl rfl
        have ha := act_puts 53 rfl hsz hdf hk [41, 42, 43, 44, 45, 46, 47, 48, 49, 50, 51, 10] (by decide +kernel)
        simp only [puts, List.foldl_cons, List.foldl_nil, e41, e42, e43, e44, e45, e46, e47, e48, e49, e50, e51, e10] at ha
        simp only [Act.put, List.setIfInBounds_toArray, List.set_cons_succ, List.set_cons_zero] at ha
        clear hall hk hsz hdf e41 e42 e43 e44 e45 e46 e47 e48 e49 e50 e51 e10
        subst ha
        obtain ⟨hB1, hB2, hB3⟩ := hB
        go_wp2_with fail
        go_roundg (gk - l)
        case measure => omega
        case rel => exact ⟨d + l, by omega, by go_num, hB1, hB2, hB3⟩
    · obtain rfl : d = k := by omega
      go_wp2_with fail
      go_ret2
      refine ⟨.slice (some ⟨G, 0, none⟩) d d, rfl, ?_, ?_, LR.out⟩
      · have h := GR.out
        rw [Nat.sub_self, List.replicate_zero, List.append_nil, List.take_of_length_le (by rw [HXl.out]; exact Nat.le_refl _)] at h
        refine ⟨_, d, by rw [HXl.out], by rw [HXl.out]; exact Nat.le_refl _, by unfold maxLen; omega, fun h => by simp at h, fun _ => ⟨G, 0, rfl, h.lt, fun j u hj => ?_⟩⟩
        rw [Nat.zero_add]
        exact h.cell hj
      · rintro x ⟨off, _, _, e, _⟩
        cases e
        rw [HG.out]
        exact Nat.le_refl _
end
end Go.Proofs.YtgdhjgfoalianaaDoor

/-
  (*disk.Disk).Read, Copy: what the calls do.
-/
namespace Go.Proofs.YtgdhjgfoalianaaDoor
open Go.RowKit
open Pd (spl spl_length spl_get clip clip_le DM)
section
variable {w : World} {c : Nat → Nat} {i D n : Nat} {m : DM}
set_option maxHeartbeats 1000000 in
set_option maxRecDepth 100000 in
theorem read_off {S M cap : Nat} {vo vk : Value} {ops torn : Int} (hB : Blk w D 67 (DB false S n cap M vo ops vk torn)) (hn : 0 < n) (p k : Int) : Calls Tryd.prog 34 #[.pointer (some ⟨D, 0, none⟩), .int .i64 p, .int .i64 k] w fun e w' => e = .returned (.tuple #[.slice none 0 0, .int .i64 7]) ∧ w' = w := by
  have HB : Hid (Blk w D 67 (DB false S n cap M vo ops vk torn)) := hB
  clear hB
  go_enter Tryd.func34, Tryd.ntmps34
  go_wp2_with fail
  refine (ready_any HB.out hn).mono ?_
  rintro e w1 ⟨rfl, hw⟩; subst hw
  simp only [Bool.false_eq_true, if_false]
  go_wp2
  go_ret2
  exact ⟨rfl, rfl⟩
set_option maxHeartbeats 1000000 in
set_option maxRecDepth 100000 in
theorem read_neg {S M cap : Nat} {vo vk : Value} {ops torn : Int} (hB : Blk w D 67 (DB true S n cap M vo ops vk torn)) (hn : 0 < n) (p k : Int) (h : p < 0 ∨ k < 0) : Calls Tryd.prog 34 #[.pointer (some ⟨D, 0, none⟩), .int .i64 p, .int .i64 k] w fun e w' => e = .returned (.tuple #[.slice none 0 0, .int .i64 2]) ∧ w' = w := by
  have HB : Hid (Blk w D 67 (DB true S n cap M vo ops vk torn)) := hB
  clear hB
  go_enter Tryd.func34, Tryd.ntmps34
  go_wp2_with fail
  refine (ready_any HB.out hn).mono ?_
  rintro e w1 ⟨rfl, hw⟩; subst hw
  simp only [if_true]
  by_cases h1 : p < 0
  · have q1 : decide (p < 0) = true := by simpa using h1
    go_wp2
    go_ret2
    exact ⟨rfl, rfl⟩
  · have h2 : k < 0 := by omega
    have q1 : decide (p < 0) = false := by simpa using h1
    have q2 : decide (k < 0) = true := by simpa using h2
    go_wp2
    go_ret2
    exact ⟨rfl, rfl⟩
set_option maxHeartbeats 1000000 in
set_option maxRecDepth 100000 in
theorem read_full {S M cap : Nat} {vo vk : Value} {ops torn : Int} (hB : Blk w D 67 (DB true S n cap M vo ops vk torn)) (hn : 0 < n) (hm : n ≤ 4096) (p k : Int) (hp : 0 ≤ p) (hk : 0 ≤ k) (hp2 : p < 9223372036854775808) (hf : ((32 * n : Nat) : Int) - p < k) : Calls Tryd.prog 34 #[.pointer (some ⟨D, 0, none⟩), .int .i64 p, .int .i64 k] w fun e w' => e = .returned (.tuple #[.slice none 0 0, .int .i64 2]) ∧ w' = w := by
  have HB : Hid (Blk w D 67 (DB true S n cap M vo ops vk torn)) := hB
  have HE : Hid (decide (k ≤ ((32 * n : Nat) : Int) - p) = false) := (show _ = _ by simp; omega)
  have HC : Hid _ := ends_any hB hn hm p k hp hp2
  have q1 : decide (p < 0) = false := by simpa using hp
  have q2 : decide (k < 0) = false := by simpa using hk
  clear hB hf hp hk hp2
  go_enter Tryd.func34, Tryd.ntmps34
  go_wp2_with fail
  refine (ready_any HB.out hn).mono ?_
  rintro e w1 ⟨rfl, hw⟩; subst hw
  simp only [if_true]
  go_wp2_with fail
  refine Calls.mono HC.out ?_
  rintro e w2 ⟨rfl, hw⟩; subst hw
  rw [HE.out]
  go_wp2
  go_ret2
  exact ⟨rfl, rfl⟩
theorem dRead_any (h : IsD w c i D n m) (p k : Int) (hpw : (Lit.int .i64 p).wf = true) :
    Calls Tryd.prog 34 #[.pointer (some ⟨D, 0, none⟩), .int .i64 p, .int .i64 k] w fun e w' => ∃ v, e = .returned (.tuple #[v, .int .i64 ((Pd.read m p k).2 : Int)]) ∧ Rd w' v (Pd.read m p k).1 ∧ (∀ x, InB v x → w.heap.size ≤ x) ∧ Below w.heap.size w w' := by
  obtain ⟨S, M, cap, N, vo, vk, s, hA, hW, hR, -⟩ := h
  have bd := bounds_i64 hpw
  have hon := hR.on
  have hnow := hR.ok.now
  have hpos := hA.pos
  have hmax := hA.max
  have hd := hA.d
  cases ho : m.off with
  | true =>
    rw [ho] at hon
    have e1 : Pd.read m p k = ([], 7) := by unfold Pd.read; rw [ho]; rfl
    rw [e1]
    rw [hon] at hd
    refine (read_off hd hpos p k).mono ?_
    rintro e w' ⟨rfl, rfl⟩
    exact ⟨_, rfl, Rd_nil _, fun x hx => absurd hx (InB_nil x), Below.refl _ _⟩
  | false =>
    rw [ho] at hon
    rw [hon] at hd
    by_cases h1 : p < 0 ∨ k < 0
    · have e1 : Pd.read m p k = ([], 2) := by unfold Pd.read; rw [ho, if_neg (by simp), if_pos (by omega)]
      rw [e1]
      refine (read_neg hd hpos p k h1).mono ?_
      rintro e w' ⟨rfl, rfl⟩
      exact ⟨_, rfl, Rd_nil _, fun x hx => absurd hx (InB_nil x), Below.refl _ _⟩
    · by_cases h2 : (m.now.length : Int) < p ∨ (m.now.length : Int) - p < k
      · have e1 : Pd.read m p k = ([], 2) := by unfold Pd.read; rw [ho, if_neg (by simp), if_pos (by omega)]
        rw [e1]
        refine (read_full hd hpos hmax p k (by omega) (by omega) (by omega) (by omega)).mono ?_
        rintro e w' ⟨rfl, rfl⟩
        exact ⟨_, rfl, Rd_nil _, fun x hx => absurd hx (InB_nil x), Below.refl _ _⟩
      · have e1 : Pd.read m p k = ((m.now.drop p.toNat).take k.toNat, 0) := by unfold Pd.read; rw [ho, if_neg (by simp), if_neg (by omega)]
        rw [e1]
        have := read_go hA hW hR ho p.toNat k.toNat (by omega)
        rw [show ((p.toNat : Nat) : Int) = p by omega, show ((k.toNat : Nat) : Int) = k by omega] at this
        exact this
theorem Tryd.size67 : (Tryd.prog.info? 67).map (·.size) = some 7 := by kernel_rfl
/-- What a copy is made of. -/
theorem Z56 : ∀ W : World, (zeroValue 67).run Tryd.prog W = .ok (.agg #[.bool false, .slice none 0 0, .map none, .slice none 0 0, .int .i64 0, .slice none 0 0, .int .i64 0]) W := fun W => by kernel_rfl
end
end Go.Proofs.YtgdhjgfoalianaaDoor

/-
  One disk that a law made: its acts.
-/
namespace Go.Proofs.YtgdhjgfoalianaaDoor
open Go.RowKit
open Pd (DM)
theorem cell_of_row {W : World} {b j : Nat} {T : TypeId} {fr : Nat × Nat} {cs : Array Value} (h : W.heap[b]? = some (.cells cs T fr)) : W.cell? ⟨b, j, none⟩ = cs[j]? := by simp [World.cell?, h]
theorem rd_new {W : World} {L : List UInt8} {fr : Nat × Nat} (hL : L.length ≤ 1000000) : Rd (W.alloc (.cells (By L).toArray 5 fr)) (.slice (some ⟨W.heap.size, 0, none⟩) L.length L.length) L := by
  refine ⟨_, _, rfl, Nat.le_refl _, by simp only [maxLen]; omega, fun h => by simp at h, fun _ => ⟨_, 0, rfl, by simp, fun j u hj => ?_⟩⟩
  rw [cell_of_row (heap_alloc_new W _)]
  simpa using hj
theorem rdN_new {W : World} {L : List Int} {fr : Nat × Nat} (hL : L.length ≤ 1000000) : RdN (W.alloc (.cells (Ni L).toArray 3 fr)) (.slice (some ⟨W.heap.size, 0, none⟩) L.length L.length) L := by
  refine ⟨_, _, rfl, Nat.le_refl _, by simp only [maxLen]; omega, fun h => by simp at h, fun _ => ⟨_, 0, rfl, by simp, fun j hj => ?_⟩⟩
  rw [cell_of_row (heap_alloc_new W _), Nat.zero_add]
  simpa using Ni_get hj
/-- Above the heap there is no colour. -/
def Norm (c : Nat → Nat) (w : World) : Prop := ∀ k, w.heap.size ≤ k → c k = 0
theorem Norm.kept {c : Nat → Nat} {w w' : World} (h : Norm c w) (hs : w.heap.size ≤ w'.heap.size) : Norm c w' := fun k hk => h k (Nat.le_trans hs hk)
theorem Norm.cool {c : Nat → Nat} {w : World} (h : Norm c w) {v : Value} (hv : ∀ x, InB v x → w.heap.size ≤ x) : Cool c v := fun x hx => h x (hv x hx)
theorem InB_at {g k cp x : Nat} (h : InB (.slice (some ⟨g, 0, none⟩) k cp) x) : x = g := by obtain ⟨_, _, _, e, _⟩ := h; cases e; rfl
/-- Blocks below B have no colour. -/
def Low (c : Nat → Nat) (B : Nat) : Prop := ∀ k, k < B → c k = 0
theorem Low.step {c c' : Nat → Nat} {i B : Nat} {w w' : World} (h : Low c B) (hs : Step c i w c' w') (hB : B ≤ w.heap.size) : Low c' B := fun k hk => (hs.ext k (by omega)).trans (h k hk)
/-- A disk that was made since w0. -/
def One (w0 w : World) (D n : Nat) (m : DM) : Prop := ∃ c, IsD w c 1 D n m ∧ Norm c w ∧ Low c w0.heap.size ∧ Below w0.heap.size w0 w
section
variable {w0 w : World} {D n : Nat} {m : DM}
theorem One.below (h : One w0 w D n m) : Below w0.heap.size w0 w := by obtain ⟨c, _, _, _, hb⟩ := h; exact hb
theorem One.ok (h : One w0 w D n m) : Pd.Ok n m ∧ Pd.Dark m ∧ 0 < n ∧ n ≤ 4096 := by obtain ⟨c, h, _⟩ := h; exact h.ok
theorem One.kept {w' : World} (h : One w0 w D n m) (hb : Below w.heap.size w w') : One w0 w' D n m := by
  obtain ⟨c, h1, h2, h3, h4⟩ := h
  exact ⟨c, h1.kept hb (fun _ _ => rfl), h2.kept hb.size, h3, h4.trans (hb.mono h4.size)⟩
theorem One.step {c c' : Nat → Nat} {w' : World} {m' : DM} (hI : IsD w' c' 1 D n m') (hs : Step c 1 w c' w') (h3 : Low c w0.heap.size) (h4 : Below w0.heap.size w0 w) : One w0 w' D n m' :=
  ⟨c', hI, hs.norm, h3.step hs h4.size, h4.trans (hs.below (by decide) h4.size h3)⟩
theorem One.new (w : World) (n : Nat) (h1 : 0 < n) (h2 : n ≤ 4096) : Calls Tryd.prog 11 #[.int .i64 (n : Int)] w fun e w' => ∃ D, e = .returned (.pointer (some ⟨D, 0, none⟩)) ∧ One w w' D n (Pd.new n) := by
  refine (dNew_any w (fun _ => 0) 1 (by decide) n h1 h2).mono ?_
  rintro e w' ⟨D, rfl, c', hD, hs, hb, _⟩
  exact ⟨D, rfl, c', hD, hs.norm, fun k hk => hs.ext k hk, hb⟩
theorem One.write (h : One w0 w D n m) (p : Int) (hp : (Lit.int .i64 p).wf = true) (v : Value) (b : List UInt8) (hr : Rd w0 v b) :
    Calls Tryd.prog 24 #[.pointer (some ⟨D, 0, none⟩), .int .i64 p, v] w fun e w' => e = .returned (.int .i64 ((Pd.write m p b).1 : Int)) ∧ One w0 w' D n (Pd.write m p b).2 := by
  obtain ⟨c, h1, h2, h3, h4⟩ := h
  refine (dWrite_any h1 h2 p hp v b (hr.kept h4) (fun x hx => h3 x (hr.inB_lt hx))).mono ?_
  rintro e w' ⟨rfl, c', hI, hs⟩
  exact ⟨rfl, One.step hI hs h3 h4⟩
theorem One.writeN (h : One w0 w D n m) (p : Int) (hp : (Lit.int .i64 p).wf = true) (b : List UInt8) (hb : b.length ≤ 1000000) (fr : Nat × Nat) :
    Calls Tryd.prog 24 #[.pointer (some ⟨D, 0, none⟩), .int .i64 p, .slice (some ⟨w.heap.size, 0, none⟩) b.length b.length] (w.alloc (.cells (By b).toArray 5 fr)) fun e w' => e = .returned (.int .i64 ((Pd.write m p b).1 : Int)) ∧ One w0 w' D n (Pd.write m p b).2 := by
  obtain ⟨c, h1, h2, h3, h4⟩ := h
  have hba : Below w.heap.size w (w.alloc (.cells (By b).toArray 5 fr)) := (Below.refl _ _).alloc (Nat.le_refl _) _
  have h4' := h4.trans (hba.mono h4.size)
  refine (dWrite_any (h1.kept hba (fun _ _ => rfl)) (h2.kept hba.size) p hp _ b (rd_new hb) (h2.cool (fun x hx => by rw [InB_at hx]; exact Nat.le_refl _))).mono ?_
  rintro e w' ⟨rfl, c', hI, hs⟩
  exact ⟨rfl, One.step hI hs h3 h4'⟩
theorem One.read (h : One w0 w D n m) (p k : Int) (hp : (Lit.int .i64 p).wf = true) :
    Calls Tryd.prog 34 #[.pointer (some ⟨D, 0, none⟩), .int .i64 p, .int .i64 k] w fun e w' => ∃ v, e = .returned (.tuple #[v, .int .i64 ((Pd.read m p k).2 : Int)]) ∧ Rd w' v (Pd.read m p k).1 ∧ One w0 w' D n m ∧ Below w.heap.size w w' := by
  have hO := h
  obtain ⟨c, h1, h2, h3, h4⟩ := h
  refine (dRead_any h1 p k hp).mono ?_
  rintro e w' ⟨v, rfl, hr, _, hb⟩
  exact ⟨v, rfl, hr, hO.kept hb, hb⟩
theorem One.sync (h : One w0 w D n m) : Calls Tryd.prog 39 #[.pointer (some ⟨D, 0, none⟩)] w fun e w' => e = .returned (.int .i64 ((Pd.sync m).1 : Int)) ∧ One w0 w' D n (Pd.sync m).2 := by
  obtain ⟨c, h1, h2, h3, h4⟩ := h
  refine (dSync_any h1 h2).mono ?_
  rintro e w' ⟨rfl, c', hI, hs⟩
  exact ⟨rfl, One.step hI hs h3 h4⟩
theorem One.crash (h : One w0 w D n m) (v : Value) (l : List Int) (t : Int) (hr : RdN w0 v l) (hl : ∀ k ∈ l, (Lit.int .i64 k).wf = true) :
    Calls Tryd.prog 18 #[.pointer (some ⟨D, 0, none⟩), v, .int .i64 t] w fun e w' => e = .returned (.bool (Pd.crashed m l t).1) ∧ One w0 w' D n (Pd.crashed m l t).2 := by
  obtain ⟨c, h1, h2, h3, h4⟩ := h
  refine (dCrash_any h1 h2 v l t (hr.kept h4) hl (fun x hx => h3 x (hr.inB_lt hx))).mono ?_
  rintro e w' ⟨rfl, c', hI, hs⟩
  exact ⟨rfl, One.step hI hs h3 h4⟩
theorem One.crashN (h : One w0 w D n m) (l : List Int) (hl2 : l.length ≤ 1000000) (t : Int) (hl : ∀ k ∈ l, (Lit.int .i64 k).wf = true) (fr : Nat × Nat) :
    Calls Tryd.prog 18 #[.pointer (some ⟨D, 0, none⟩), .slice (some ⟨w.heap.size, 0, none⟩) l.length l.length, .int .i64 t] (w.alloc (.cells (Ni l).toArray 3 fr)) fun e w' => e = .returned (.bool (Pd.crashed m l t).1) ∧ One w0 w' D n (Pd.crashed m l t).2 := by
  obtain ⟨c, h1, h2, h3, h4⟩ := h
  have hba : Below w.heap.size w (w.alloc (.cells (Ni l).toArray 3 fr)) := (Below.refl _ _).alloc (Nat.le_refl _) _
  have h4' := h4.trans (hba.mono h4.size)
  refine (dCrash_any (h1.kept hba (fun _ _ => rfl)) (h2.kept hba.size) _ l t (rdN_new hl2) hl (h2.cool (fun x hx => by rw [InB_at hx]; exact Nat.le_refl _))).mono ?_
  rintro e w' ⟨rfl, c', hI, hs⟩
  exact ⟨rfl, One.step hI hs h3 h4'⟩
theorem One.arm (h : One w0 w D n m) (ops : Int) (hops : (Lit.int .i64 ops).wf = true) (v : Value) (l : List Int) (t : Int) (hr : RdN w0 v l) (hl : ∀ k ∈ l, (Lit.int .i64 k).wf = true) (hl2 : l.length ≤ 1000000) :
    Calls Tryd.prog 22 #[.pointer (some ⟨D, 0, none⟩), .int .i64 ops, v, .int .i64 t] w fun e w' => e = .returned (.tuple #[]) ∧ One w0 w' D n (Pd.arm m ops l t) := by
  obtain ⟨c, h1, h2, h3, h4⟩ := h
  refine (dArm_any h1 ops hops v l t (hr.kept h4) hl hl2 (fun x hx => h3 x (hr.inB_lt hx))).mono ?_
  rintro e w' ⟨rfl, c', hI, hs⟩
  exact ⟨rfl, One.step hI hs h3 h4⟩
theorem One.armN (h : One w0 w D n m) (ops : Int) (hops : (Lit.int .i64 ops).wf = true) (l : List Int) (t : Int) (hl : ∀ k ∈ l, (Lit.int .i64 k).wf = true) (hl2 : l.length ≤ 1000000) (fr : Nat × Nat) :
    Calls Tryd.prog 22 #[.pointer (some ⟨D, 0, none⟩), .int .i64 ops, .slice (some ⟨w.heap.size, 0, none⟩) l.length l.length, .int .i64 t] (w.alloc (.cells (Ni l).toArray 3 fr)) fun e w' => e = .returned (.tuple #[]) ∧ One w0 w' D n (Pd.arm m ops l t) := by
  obtain ⟨c, h1, h2, h3, h4⟩ := h
  have hba : Below w.heap.size w (w.alloc (.cells (Ni l).toArray 3 fr)) := (Below.refl _ _).alloc (Nat.le_refl _) _
  have h4' := h4.trans (hba.mono h4.size)
  refine (dArm_any (h1.kept hba (fun _ _ => rfl)) ops hops _ l t (rdN_new hl2) hl hl2 (h2.cool (fun x hx => by rw [InB_at hx]; exact Nat.le_refl _))).mono ?_
  rintro e w' ⟨rfl, c', hI, hs⟩
  exact ⟨rfl, One.step hI hs h3 h4'⟩
theorem One.start (h : One w0 w D n m) : Calls Tryd.prog 20 #[.pointer (some ⟨D, 0, none⟩)] w fun e w' => e = .returned (.bool (Pd.start m).1) ∧ One w0 w' D n (Pd.start m).2 := by
  obtain ⟨c, h1, h2, h3, h4⟩ := h
  refine (dStart_any h1 h2).mono ?_
  rintro e w' ⟨rfl, hI, hs⟩
  exact ⟨rfl, One.step hI hs h3 h4⟩
theorem One.on (h : One w0 w D n m) : Calls Tryd.prog 33 #[.pointer (some ⟨D, 0, none⟩)] w fun e w' => e = .returned (.bool (!m.off)) ∧ w' = w := by
  obtain ⟨c, h1, _⟩ := h
  exact dOn_any h1
theorem One.size (h : One w0 w D n m) : Calls Tryd.prog 53 #[.pointer (some ⟨D, 0, none⟩)] w fun e w' => e = .returned (.int .i64 ((32 * n : Nat) : Int)) ∧ w' = w := by
  obtain ⟨c, h1, _⟩ := h
  exact dSize_any h1
end
end Go.Proofs.YtgdhjgfoalianaaDoor

/-
  One disk that a law made, and blocks of the law's own: its acts.
-/
namespace Go.Proofs.YtgdhjgfoalianaaDoor
open Go.RowKit
open Pd (DM)
/-- A disk that was made since w0, and the colours. -/
def OneC (w0 w : World) (D n : Nat) (m : DM) (c : Nat → Nat) : Prop := IsD w c 1 D n m ∧ Norm c w ∧ Low c w0.heap.size ∧ Below w0.heap.size w0 w
section
variable {w0 w : World} {D n : Nat} {m : DM} {c : Nat → Nat}
theorem Step.ahead {i : Nat} {c' : Nat → Nat} {w1 w' : World} (hs : Step c i w1 c' w') (hb : Below w.heap.size w w1) : Step c i w c' w' :=
  ⟨(Chg.of_below hb).trans hs.chg, fun k hk => hs.ext k (Nat.lt_of_lt_of_le hk hb.size), hs.norm⟩
theorem OneC.below (h : OneC w0 w D n m c) : Below w0.heap.size w0 w := h.2.2.2
theorem OneC.ok (h : OneC w0 w D n m c) : Pd.Ok n m ∧ Pd.Dark m ∧ 0 < n ∧ n ≤ 4096 := h.1.ok
theorem OneC.kept {w' : World} (h : OneC w0 w D n m c) (hb : Below w.heap.size w w') : OneC w0 w' D n m c := by
  obtain ⟨h1, h2, h3, h4⟩ := h
  exact ⟨h1.kept hb (fun _ _ => rfl), h2.kept hb.size, h3, h4.trans (hb.mono h4.size)⟩
/-- A new block of colour 9 is the law's own. -/
theorem OneC.mine (h : OneC w0 w D n m c) (o : Obj) : ∃ c', OneC w0 (w.alloc o) D n m c' ∧ c' w.heap.size = 9 ∧ ∀ k, k < w.heap.size → c' k = c k := by
  obtain ⟨h1, h2, h3, h4⟩ := h
  have hba : Below w.heap.size w (w.alloc o) := (Below.refl _ _).alloc (Nat.le_refl _) _
  have he : ∀ k, k < w.heap.size → (if k = w.heap.size then 9 else c k) = c k := fun k hk => if_neg (by omega)
  refine ⟨fun k => if k = w.heap.size then 9 else c k, ⟨h1.kept hba he, fun k hk => ?_, fun k hk => ?_, h4.trans (hba.mono h4.size)⟩, if_pos rfl, he⟩
  · simp at hk
    show (if k = w.heap.size then 9 else c k) = 0
    rw [if_neg (by omega)]
    exact h2 k (by omega)
  · have := h4.size
    show (if k = w.heap.size then 9 else c k) = 0
    rw [if_neg (by omega)]
    exact h3 k hk
/-- The law writes to blocks of its own. -/
theorem OneC.chg {w' : World} (h : OneC w0 w D n m c) {F : Nat → Prop} (hc : Chg F w w') (hF : ∀ k, F k → k < w.heap.size → c k = 9) : OneC w0 w' D n m c := by
  obtain ⟨h1, h2, h3, h4⟩ := h
  refine ⟨h1.chg hc (fun k hk e f => by have := hF k f hk; omega) (fun _ _ => rfl), h2.kept hc.size, h3, h4.trans (hc.below h4.size (fun k hk f => ?_))⟩
  have h5 := hF k f (by have := h4.size; omega)
  have h6 := h3 k hk
  omega
theorem OneC.other {c' : Nat → Nat} {w' : World} {G : Nat} (hs : Step c 1 w c' w') (hG : c G = 9) (hlt : G < w.heap.size) : c' G = 9 ∧ w'.heap[G]? = w.heap[G]? := ⟨(hs.ext G hlt).trans hG, hs.chg.block G hlt (by omega)⟩
theorem Blk.other {c' : Nat → Nat} {w' : World} {G : Nat} {T : TypeId} {cs : List Value} (h : Blk w G T cs) (hs : Step c 1 w c' w') (hG : c G = 9) : Blk w' G T cs ∧ c' G = 9 := ⟨(hs.chg.block G h.lt (by omega)).trans h, (hs.ext G h.lt).trans hG⟩
theorem OneC.step {c' : Nat → Nat} {w' : World} {m' : DM} (hI : IsD w' c' 1 D n m') (hs : Step c 1 w c' w') (h3 : Low c w0.heap.size) (h4 : Below w0.heap.size w0 w) : OneC w0 w' D n m' c' :=
  ⟨hI, hs.norm, h3.step hs h4.size, h4.trans (hs.below (by decide) h4.size h3)⟩
theorem OneC.new (w : World) (n : Nat) (h1 : 0 < n) (h2 : n ≤ 4096) : Calls Tryd.prog 11 #[.int .i64 (n : Int)] w fun e w' => ∃ D, e = .returned (.pointer (some ⟨D, 0, none⟩)) ∧ ∃ c, OneC w w' D n (Pd.new n) c := by
  refine (dNew_any w (fun _ => 0) 1 (by decide) n h1 h2).mono ?_
  rintro e w' ⟨D, rfl, c', hD, hs, hb, _⟩
  exact ⟨D, rfl, c', hD, hs.norm, fun k hk => hs.ext k hk, hb⟩
theorem OneC.write (h : OneC w0 w D n m c) (p : Int) (hp : (Lit.int .i64 p).wf = true) (v : Value) (b : List UInt8) (hr : Rd w0 v b) :
    Calls Tryd.prog 24 #[.pointer (some ⟨D, 0, none⟩), .int .i64 p, v] w fun e w' => e = .returned (.int .i64 ((Pd.write m p b).1 : Int)) ∧ ∃ c', OneC w0 w' D n (Pd.write m p b).2 c' ∧ Step c 1 w c' w' := by
  obtain ⟨h1, h2, h3, h4⟩ := h
  refine (dWrite_any h1 h2 p hp v b (hr.kept h4) (fun x hx => h3 x (hr.inB_lt hx))).mono ?_
  rintro e w' ⟨rfl, c', hI, hs⟩
  exact ⟨rfl, c', OneC.step hI hs h3 h4, hs⟩
theorem OneC.writeN (h : OneC w0 w D n m c) (p : Int) (hp : (Lit.int .i64 p).wf = true) (b : List UInt8) (hb : b.length ≤ 1000000) (fr : Nat × Nat) :
    Calls Tryd.prog 24 #[.pointer (some ⟨D, 0, none⟩), .int .i64 p, .slice (some ⟨w.heap.size, 0, none⟩) b.length b.length] (w.alloc (.cells (By b).toArray 5 fr)) fun e w' => e = .returned (.int .i64 ((Pd.write m p b).1 : Int)) ∧ ∃ c', OneC w0 w' D n (Pd.write m p b).2 c' ∧ Step c 1 w c' w' := by
  obtain ⟨h1, h2, h3, h4⟩ := h
  have hba : Below w.heap.size w (w.alloc (.cells (By b).toArray 5 fr)) := (Below.refl _ _).alloc (Nat.le_refl _) _
  have h4' := h4.trans (hba.mono h4.size)
  refine (dWrite_any (h1.kept hba (fun _ _ => rfl)) (h2.kept hba.size) p hp _ b (rd_new hb) (h2.cool (fun x hx => by rw [InB_at hx]; exact Nat.le_refl _))).mono ?_
  rintro e w' ⟨rfl, c', hI, hs⟩
  exact ⟨rfl, c', OneC.step hI hs h3 h4', hs.ahead hba⟩
theorem OneC.read (h : OneC w0 w D n m c) (p k : Int) (hp : (Lit.int .i64 p).wf = true) :
    Calls Tryd.prog 34 #[.pointer (some ⟨D, 0, none⟩), .int .i64 p, .int .i64 k] w fun e w' => ∃ v, e = .returned (.tuple #[v, .int .i64 ((Pd.read m p k).2 : Int)]) ∧ Rd w' v (Pd.read m p k).1 ∧ OneC w0 w' D n m c ∧ Below w.heap.size w w' := by
  have hO := h
  obtain ⟨h1, h2, h3, h4⟩ := h
  refine (dRead_any h1 p k hp).mono ?_
  rintro e w' ⟨v, rfl, hr, _, hb⟩
  exact ⟨v, rfl, hr, hO.kept hb, hb⟩
theorem OneC.sync (h : OneC w0 w D n m c) : Calls Tryd.prog 39 #[.pointer (some ⟨D, 0, none⟩)] w fun e w' => e = .returned (.int .i64 ((Pd.sync m).1 : Int)) ∧ ∃ c', OneC w0 w' D n (Pd.sync m).2 c' ∧ Step c 1 w c' w' := by
  obtain ⟨h1, h2, h3, h4⟩ := h
  refine (dSync_any h1 h2).mono ?_
  rintro e w' ⟨rfl, c', hI, hs⟩
  exact ⟨rfl, c', OneC.step hI hs h3 h4, hs⟩
theorem OneC.crash (h : OneC w0 w D n m c) (v : Value) (l : List Int) (t : Int) (hr : RdN w0 v l) (hl : ∀ k ∈ l, (Lit.int .i64 k).wf = true) :
    Calls Tryd.prog 18 #[.pointer (some ⟨D, 0, none⟩), v, .int .i64 t] w fun e w' => e = .returned (.bool (Pd.crashed m l t).1) ∧ ∃ c', OneC w0 w' D n (Pd.crashed m l t).2 c' ∧ Step c 1 w c' w' := by
  obtain ⟨h1, h2, h3, h4⟩ := h
  refine (dCrash_any h1 h2 v l t (hr.kept h4) hl (fun x hx => h3 x (hr.inB_lt hx))).mono ?_
  rintro e w' ⟨rfl, c', hI, hs⟩
  exact ⟨rfl, c', OneC.step hI hs h3 h4, hs⟩
theorem OneC.crashN (h : OneC w0 w D n m c) (l : List Int) (hl2 : l.length ≤ 1000000) (t : Int) (hl : ∀ k ∈ l, (Lit.int .i64 k).wf = true) (fr : Nat × Nat) :
    Calls Tryd.prog 18 #[.pointer (some ⟨D, 0, none⟩), .slice (some ⟨w.heap.size, 0, none⟩) l.length l.length, .int .i64 t] (w.alloc (.cells (Ni l).toArray 3 fr)) fun e w' => e = .returned (.bool (Pd.crashed m l t).1) ∧ ∃ c', OneC w0 w' D n (Pd.crashed m l t).2 c' ∧ Step c 1 w c' w' := by
  obtain ⟨h1, h2, h3, h4⟩ := h
  have hba : Below w.heap.size w (w.alloc (.cells (Ni l).toArray 3 fr)) := (Below.refl _ _).alloc (Nat.le_refl _) _
  have h4' := h4.trans (hba.mono h4.size)
  refine (dCrash_any (h1.kept hba (fun _ _ => rfl)) (h2.kept hba.size) _ l t (rdN_new hl2) hl (h2.cool (fun x hx => by rw [InB_at hx]; exact Nat.le_refl _))).mono ?_
  rintro e w' ⟨rfl, c', hI, hs⟩
  exact ⟨rfl, c', OneC.step hI hs h3 h4', hs.ahead hba⟩
theorem OneC.arm (h : OneC w0 w D n m c) (ops : Int) (hops : (Lit.int .i64 ops).wf = true) (v : Value) (l : List Int) (t : Int) (hr : RdN w0 v l) (hl : ∀ k ∈ l, (Lit.int .i64 k).wf = true) (hl2 : l.length ≤ 1000000) :
    Calls Tryd.prog 22 #[.pointer (some ⟨D, 0, none⟩), .int .i64 ops, v, .int .i64 t] w fun e w' => e = .returned (.tuple #[]) ∧ ∃ c', OneC w0 w' D n (Pd.arm m ops l t) c' ∧ Step c 1 w c' w' := by
  obtain ⟨h1, h2, h3, h4⟩ := h
  refine (dArm_any h1 ops hops v l t (hr.kept h4) hl hl2 (fun x hx => h3 x (hr.inB_lt hx))).mono ?_
  rintro e w' ⟨rfl, c', hI, hs⟩
  exact ⟨rfl, c', OneC.step hI hs h3 h4, hs⟩
theorem OneC.armN (h : OneC w0 w D n m c) (ops : Int) (hops : (Lit.int .i64 ops).wf = true) (l : List Int) (t : Int) (hl : ∀ k ∈ l, (Lit.int .i64 k).wf = true) (hl2 : l.length ≤ 1000000) (fr : Nat × Nat) :
    Calls Tryd.prog 22 #[.pointer (some ⟨D, 0, none⟩), .int .i64 ops, .slice (some ⟨w.heap.size, 0, none⟩) l.length l.length, .int .i64 t] (w.alloc (.cells (Ni l).toArray 3 fr)) fun e w' => e = .returned (.tuple #[]) ∧ ∃ c', OneC w0 w' D n (Pd.arm m ops l t) c' ∧ Step c 1 w c' w' := by
  obtain ⟨h1, h2, h3, h4⟩ := h
  have hba : Below w.heap.size w (w.alloc (.cells (Ni l).toArray 3 fr)) := (Below.refl _ _).alloc (Nat.le_refl _) _
  have h4' := h4.trans (hba.mono h4.size)
  refine (dArm_any (h1.kept hba (fun _ _ => rfl)) ops hops _ l t (rdN_new hl2) hl hl2 (h2.cool (fun x hx => by rw [InB_at hx]; exact Nat.le_refl _))).mono ?_
  rintro e w' ⟨rfl, c', hI, hs⟩
  exact ⟨rfl, c', OneC.step hI hs h3 h4', hs.ahead hba⟩
theorem OneC.start (h : OneC w0 w D n m c) : Calls Tryd.prog 20 #[.pointer (some ⟨D, 0, none⟩)] w fun e w' => e = .returned (.bool (Pd.start m).1) ∧ ∃ c', OneC w0 w' D n (Pd.start m).2 c' ∧ Step c 1 w c' w' := by
  obtain ⟨h1, h2, h3, h4⟩ := h
  refine (dStart_any h1 h2).mono ?_
  rintro e w' ⟨rfl, hI, hs⟩
  exact ⟨rfl, c, OneC.step hI hs h3 h4, hs⟩
theorem OneC.on (h : OneC w0 w D n m c) : Calls Tryd.prog 33 #[.pointer (some ⟨D, 0, none⟩)] w fun e w' => e = .returned (.bool (!m.off)) ∧ w' = w := by
  obtain ⟨h1, _⟩ := h
  exact dOn_any h1
theorem OneC.size (h : OneC w0 w D n m c) : Calls Tryd.prog 53 #[.pointer (some ⟨D, 0, none⟩)] w fun e w' => e = .returned (.int .i64 ((32 * n : Nat) : Int)) ∧ w' = w := by
  obtain ⟨h1, _⟩ := h
  exact dSize_any h1
end
end Go.Proofs.YtgdhjgfoalianaaDoor
