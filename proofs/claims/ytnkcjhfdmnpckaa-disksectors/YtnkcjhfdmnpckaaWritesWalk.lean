/-
  indenturelaw05.DiskWrites: the walk: the call returns true and makes new memory alone.
-/
import Derived.Test.YtnkcjhfdmnpckaaDLight
import Derived.Test.YtnkcjhfdmnpckaaDOneC
namespace Go.Proofs.Ytnkcjhfdmnpckaa
open Go.RowKit
open Pd (DM spl)
/-- An act's fields are loaded where it lies. -/
structure ActAt (w : World) (E : Nat) (p : ActP) (ab ak : Option Addr) (cb ck : Nat) : Prop where
  blk : Blk w E 32 (AC p (.slice ab p.B.length cb) (.slice ak p.keep.length ck))
  isA : IsA w p (.slice ab p.B.length cb) (.slice ak p.keep.length ck)
/-- The disk of DiskWrites: power is there, nothing is in store, and the bytes are l. -/
structure Plain (n : Nat) (m : DM) (l : List UInt8) : Prop where
  off : m.off = false
  armed : m.armed = 0
  now : m.now = l
  ok : Pd.Ok n m
theorem plain_new (n : Nat) : Plain n (Pd.new n) (List.replicate (32 * n) 0) := ⟨rfl, rfl, rfl, Pd.ok_new n⟩
theorem Plain.strike {n : Nat} {m : DM} {l : List UInt8} (h : Plain n m l) : Pd.strike m = (false, m) := by unfold Pd.strike; rw [if_pos h.armed]
theorem Plain.sync {n : Nat} {m : DM} {l : List UInt8} (h : Plain n m l) : (Pd.sync m).1 = 0 ∧ Plain n (Pd.sync m).2 l ∧ (Pd.sync m).2.dirty = [] := by
  have ho := h.ok.sync
  by_cases hd : m.dirty = []
  · have e : Pd.sync m = (0, m) := by unfold Pd.sync; rw [if_neg (by rw [h.off]; simp), if_pos hd]
    rw [e]
    exact ⟨rfl, h, hd⟩
  · have e : Pd.sync m = (0, { m with safe := m.now, dirty := [] }) := by unfold Pd.sync; rw [if_neg (by rw [h.off]; simp), if_neg hd, h.strike]
    rw [e] at ho ⊢
    exact ⟨rfl, ⟨h.off, h.armed, h.now, ho⟩, rfl⟩
/-- May b be written at p? -/
def fitsB (n : Nat) (p : Int) (b : List UInt8) : Bool := decide (0 ≤ p) && (decide (p ≤ ((32 * n : Nat) : Int)) && decide ((b.length : Int) ≤ ((32 * n : Nat) : Int) - p))
theorem Plain.write {n : Nat} {m : DM} {l : List UInt8} (h : Plain n m l) (p : Int) (b : List UInt8) (hf : fitsB n p b = true) :
    (Pd.write m p b).1 = 0 ∧ Plain n (Pd.write m p b).2 (spl l p.toNat b) ∧ (Pd.write m p b).2.dirty = Pd.touch m.dirty p.toNat b.length := by
  unfold fitsB at hf
  simp only [Bool.and_eq_true, decide_eq_true_eq] at hf
  have hn := h.ok.now
  have ho := h.ok.write p b
  by_cases hb : b = []
  · have e : Pd.write m p b = (0, m) := by unfold Pd.write; rw [if_neg (by rw [h.off]; simp), if_neg (by omega), if_neg (by omega), if_pos hb]
    rw [e]
    subst hb
    refine ⟨rfl, ?_, rfl⟩
    rw [Pd.spl_nil]
    exact h
  · have e : Pd.write m p b = (0, { m with now := spl m.now p.toNat b, dirty := Pd.touch m.dirty p.toNat b.length }) := by unfold Pd.write; rw [if_neg (by rw [h.off]; simp), if_neg (by omega), if_neg (by omega), if_neg hb, h.strike]
    rw [e] at ho ⊢
    exact ⟨rfl, ⟨h.off, h.armed, by show spl m.now p.toNat b = _; rw [h.now], ho⟩, rfl⟩
theorem Plain.refuse {n : Nat} {m : DM} {l : List UInt8} (h : Plain n m l) (p : Int) (b : List UInt8) (hf : fitsB n p b = false) : ((Pd.write m p b).1 = 2 ∨ (Pd.write m p b).1 = 6) ∧ (Pd.write m p b).2 = m := by
  unfold fitsB at hf
  simp only [Bool.and_eq_false_iff, decide_eq_false_iff_not] at hf
  have hn := h.ok.now
  by_cases hp : p < 0
  · have e : Pd.write m p b = (2, m) := by unfold Pd.write; rw [if_neg (by rw [h.off]; simp), if_pos hp]
    rw [e]
    exact ⟨.inl rfl, rfl⟩
  · have e : Pd.write m p b = (6, m) := by unfold Pd.write; rw [if_neg (by rw [h.off]; simp), if_neg hp, if_pos (by omega)]
    rw [e]
    exact ⟨.inr rfl, rfl⟩
theorem Plain.all {n : Nat} {m : DM} {l : List UInt8} (h : Plain n m l) : Pd.read m 0 ((32 * n : Nat) : Int) = (l, 0) := by
  unfold Pd.read
  rw [if_neg (by rw [h.off]; simp), if_neg (by rw [h.ok.now]; omega)]
  have := h.ok.now
  rw [h.now] at this ⊢
  simp
  rw [List.take_of_length_le (by omega)]
theorem slice_end (G k : Nat) : ∃ x, ∀ W : World, (Instr.sliceAt 29 (.slice (some ⟨G, 0, none⟩) k k) (some (.int .i64 (k : Int))) none none).run Try.prog W = .ok (.slice x 0 0) W := by
  have hsz := Try.size5
  cases hq : Try.prog.info? 5 with
  | none => simp [hq] at hsz
  | some i =>
    have hi1 : i.size = 1 := by simpa [hq] using hsz
    refine ⟨some ⟨G, 0, none⟩, fun W => ?_⟩
    simp [Instr.sliceAt, Instr.slice, run_underlying Try.underlying29, Instr.sliceBounds, run_sliceBound, sizeOf, typeInfo, hq, hi1, Addr.add_lit]
theorem Blk.past {w w' : World} {c c' : Nat → Nat} {E : Nat} {T : TypeId} {cs : List Value} (h : Blk w E T cs) (hs : Step c 1 w c' w') (hE : c E = 0) : Blk w' E T cs := (hs.chg.block E h.lt (by omega)).trans h
set_option maxHeartbeats 4000000 in
set_option maxRecDepth 100000 in
theorem diskWrites_any {w : World} {v : Value} {L : List ActP} (h : RdL w v L) : Calls Try.prog 8 #[v] w fun e w' => e = .returned (.bool true) ∧ Below w.heap.size w w' := by
  have HL : Hid (RdL w v L) := h
  obtain ⟨a, cp, hv, h1, h2, h3⟩ := h
  subst hv
  clear h3
  obtain ⟨n, HN⟩ : ∃ n, Hid (L.length = n) := ⟨_, rfl⟩
  rw [HN.out] at h1 HL ⊢
  have hz := Zact
  have hn : n ≤ 9223372036854775807 := by unfold maxLen at h2; omega
  obtain ⟨i0, hi0, hz0, hz1, hz2⟩ := info_parts Try.info5
  go_enter Try.func8, Try.ntmps8
  go_wp2_with fail
  refine (OneC.new w 10 (by decide) (by decide)).mono ?_
  rintro e w1 ⟨D, rfl, c1, o1⟩
  have O1 : Hid (OneC w w1 D 10 (Pd.new 10) c1) := o1
  clear o1
  go_wp2_with fail
  refine (light_any (HL.out.kept O1.out.below)).mono ?_
  rintro e w2 ⟨x, rfl, hx, hb2⟩
  have O2 : Hid (OneC w w2 D 10 (Pd.new 10) c1) := O1.out.kept hb2
  clear O1 hb2
  cases x with
  | false =>
    go_wp2_with fail
    refine (lives_any w2).mono ?_
    rintro e w3 ⟨rfl, hb3⟩
    have B3 : Hid (Below w.heap.size w w3) := O2.out.below.trans (hb3.mono O2.out.below.size)
    clear hb3
    go_wp2
    go_ret
    exact ⟨rfl, B3.out⟩
  | true =>
    have HX : Hid (Light L) := hx rfl
    clear hx
    obtain ⟨Z, HZ⟩ : ∃ Z, Hid (Z = 320) := ⟨320, rfl⟩
    have hZ : (320 : Int) = (Z : Int) := by rw [HZ.out]; rfl
    go_wp2_with (first
      | (at_make; refine wpList_make_bytes _ rfl _ _ 29 rfl i0 Try.underlying29 hi0 hz0 hz1 hz2 .i64 .i64 320 320 Z Z rfl rfl hZ hZ (Nat.le_refl _) (by omega) ?_)
      | fail)
    clear hZ
    obtain ⟨l0, HL0⟩ : ∃ l0 : List UInt8, Hid (List.replicate Z 0 = l0) := ⟨_, rfl⟩
    obtain ⟨G, HG⟩ : ∃ G, Hid (w2.heap.size = G) := ⟨_, rfl⟩
    obtain ⟨w3, hw3⟩ : ∃ x, x = w2.alloc (.cells (Array.replicate Z (Value.int .u8 0)) 5 (0, 0)) := ⟨_, rfl⟩
    rw [← hw3]
    obtain ⟨c3, O3, C3, -⟩ := O2.out.mine (.cells (Array.replicate Z (Value.int .u8 0)) 5 (0, 0))
    rw [← hw3] at O3
    have B3 : Hid (Blk w3 G 5 (By l0)) := (show Blk _ _ _ _ by rw [hw3, ← HG.out, ← HL0.out, show Array.replicate Z (Value.int .u8 0) = (By (List.replicate Z 0)).toArray by simp [By]]; exact Blk.new w2 5 _)
    rw [HG.out] at C3 ⊢
    have P3 : Hid (Plain 10 (Pd.new 10) l0) := (show Plain _ _ _ by rw [← HL0.out, HZ.out]; exact plain_new 10)
    have I3 : Hid (OneC w w3 D 10 (Pd.new 10) c3) := O3
    clear hw3 O2 O3
    go_loopg [26] n (fun g x wr => ∃ i : Nat, ∃ m l c, g + i = n ∧ x = .int .i64 (i : Int) ∧ Hid (OneC w wr D 10 m c) ∧ Hid (Plain 10 m l) ∧ Hid (Blk wr G 5 (By l)) ∧ Hid (c G = 9))
    case atStart => exact ⟨0, _, l0, c3, by omega, rfl, I3, P3, B3, C3⟩
    case round =>
      clear I3 P3 B3 C3
      obtain ⟨i, m, l, c, hgi, rfl, OR, PR, BR, CR⟩ := hrel
      by_cases hlt : i < n
      · have q2 : (i : Int) < (n : Int) := by omega
        have RL := HL.out
        obtain ⟨a', cp', e', _, _, h3⟩ := RL
        simp only [Value.slice.injEq] at e'
        obtain ⟨rfl, -, rfl⟩ := e'
        have hlt' : i < L.length := by rw [HN.out]; exact hlt
        obtain ⟨b, off, rfl, hlb, hx⟩ := h3 (by omega)
        obtain ⟨vb, vk, hr0, hA⟩ := hx i hlt'
        obtain ⟨p, HP⟩ : ∃ p, Hid (L[i] = p) := ⟨L[i], (show L[i] = L[i] from rfl)⟩
        have HF : Hid (p.B.length ≤ 400 ∧ p.keep.length ≤ 100) := (show _ from HX.out.2 p (by rw [← HP.out]; exact List.getElem_mem hlt'))
        rw [HP.out] at hr0 hA
        have hr : wr.rangeAt b (off + i * 5) (AC p vb vk) := fun j u hj => (OR.out.below.cell (p := ⟨b, off + i * 5 + j, none⟩) hlb).trans (hr0 j u hj)
        have C1 : Hid (∀ u ∈ AC p vb vk, u.oneCell' = true) := AC_one hA
        obtain ⟨ab, cb, hvb, -⟩ := hA.b
        obtain ⟨ak, ck, hvk, -⟩ := hA.k
        subst hvb hvk
        obtain ⟨CA, HCA⟩ : ∃ CA, Hid (AC p (.slice ab p.B.length cb) (.slice ak p.keep.length ck) = CA) := ⟨_, rfl⟩
        rw [HCA.out] at hr C1
        have hcl : CA.length = 5 := by rw [← HCA.out]; rfl
        have HB : Hid (Rd w (.slice ab p.B.length cb) p.B) := hA.b
        have hwa : Hid ((Lit.int .i64 p.a).wf = true) := hA.wa
        clear hx h3 hr0 hA
        go_upto_region 8 with (first
          | (refine wpList_load_mid rfl 32 _ rfl b (off + i * 5) rfl CA _ hr Try.underlying32 rfl (by rw [hcl]; exact Try.size32) ?_)
          | (refine wpList_store_new rfl 32 _ _ rfl wr _ _ _ rfl rfl rfl (by simpa [hcl] using Try.size32) (by simp [hcl]) (all_one C1.out) ?_)
          | fail)
        obtain ⟨E, HE⟩ : ∃ E, Hid (wr.heap.size = E) := ⟨_, rfl⟩
        rw [HE.out]
        obtain ⟨w4, hw4⟩ : ∃ x, x = wr.alloc (.cells CA.toArray 32 (0, 0)) := ⟨_, rfl⟩
        rw [← hw4]
        have hb4 : Below wr.heap.size wr w4 := by rw [hw4]; exact (Below.refl _ _).alloc (Nat.le_refl _) _
        have O4 : Hid (OneC w w4 D 10 m c) := OR.out.kept hb4
        have B4 : Hid (Blk w4 G 5 (By l)) := BR.out.kept hb4
        have E4 : Hid (Blk w4 E 32 (AC p (.slice ab p.B.length cb) (.slice ak p.keep.length ck))) := (show Blk _ _ _ _ by rw [hw4, ← HE.out, HCA.out]; exact Blk.new wr 32 CA)
        have CE : Hid (c E = 0) := (show _ from OR.out.2.1 E (by rw [HE.out]; exact Nat.le_refl _))
        clear hw4 hb4 hr OR BR HCA C1 hcl
        by_cases hk2 : p.kind = 2
        · have c0 := E4.out.cell (j := 0) rfl
          rw [hk2] at c0
          go_wp2_with fail
          refine (OneC.sync O4.out).mono ?_
          rintro e w5 ⟨rfl, c5, o5, s5⟩
          obtain ⟨hg5, C5⟩ := B4.out.other s5 CR.out
          have O5 : Hid (OneC w w5 D 10 (Pd.sync m).2 c5) := o5
          have B5 : Hid (Blk w5 G 5 (By l)) := hg5
          have C5' : Hid (c5 G = 9) := C5
          have c0' := (E4.out.past s5 CE.out).cell (j := 0) rfl
          rw [hk2] at c0'
          have P5 : Hid (Plain 10 (Pd.sync m).2 l) := PR.out.sync.2.1
          clear hg5 C5 s5 o5 c0 E4
          go_wp2_with fail
          go_roundg (gk - 1)
          case measure => omega
          case rel => exact ⟨i + 1, _, l, c5, by omega, by go_num, O5, P5, B5, C5'⟩
        · by_cases hk0 : p.kind = 0
          · have c0 := E4.out.cell (j := 0) rfl
            rw [hk0] at c0
            have c1 := E4.out.cell (j := 1) rfl
            have c3 := E4.out.cell (j := 3) rfl
            go_wp2_with fail
            refine (OneC.write O4.out p.a hwa.out _ p.B HB.out).mono ?_
            rintro e w5 ⟨rfl, c5, o5, s5⟩
            obtain ⟨hg5, C5⟩ := B4.out.other s5 CR.out
            have O5 : Hid (OneC w w5 D 10 (Pd.write m p.a p.B).2 c5) := o5
            have B5 : Hid (Blk w5 G 5 (By l)) := hg5
            have C5' : Hid (c5 G = 9) := C5
            have E5 : Hid (Blk w5 E 32 (AC p (.slice ab p.B.length cb) (.slice ak p.keep.length ck))) := E4.out.past s5 CE.out
            clear hg5 C5 s5 o5 c0 c1 c3 E4 O4 B4
            obtain ⟨lb, HLB⟩ : ∃ lb, Hid (p.B.length = lb) := ⟨_, rfl⟩
            have hlb4 : lb ≤ 400 := by rw [← HLB.out]; exact HF.out.1
            have c1 := E5.out.cell (j := 1) rfl
            have c3 := E5.out.cell (j := 3) rfl
            rw [HLB.out] at c3
            cases hf : fitsB 10 p.a p.B with
            | true =>
              obtain ⟨hw1, hw2, -⟩ := PR.out.write p.a p.B hf
              have hf' := hf
              unfold fitsB at hf'
              simp only [Bool.and_eq_true, decide_eq_true_eq] at hf'
              obtain ⟨q, HQ⟩ : ∃ q : Nat, Hid (p.a = (q : Int)) := ⟨p.a.toNat, (show _ = _ by omega)⟩
              have hq1 : q ≤ 320 := by have := HQ.out; omega
              have hq2 : lb ≤ 320 - q := by have := HQ.out; have := HLB.out; omega
              rw [HQ.out] at c1
              have P5 : Hid (Plain 10 (Pd.write m p.a p.B).2 (spl l q p.B)) := (show _ by rw [HQ.out] at hw2 ⊢; exact hw2)
              rw [hw1]
              clear hw1 hw2 hf hf'
              have u1 : (0 : Int) ≤ (q : Int) := by omega
              have u2 : (q : Int) ≤ 320 := by omega
              have u3 : (lb : Int) ≤ 320 - (q : Int) := by omega
              have c1d := E5.out.drew.cell (j := 1) rfl
              have c3d := E5.out.drew.cell (j := 3) rfl
              rw [HQ.out] at c1d
              rw [HLB.out] at c3d
              go_wp2_with fail
              have hlen : l.length = 320 := by have := PR.out.ok.now; rw [PR.out.now] at this; exact this
              have hRd : Hid (Rd w5.drew (.slice ab lb cb) p.B) := (show Rd _ _ _ by have := HB.out.kept O5.out.below; rw [HLB.out] at this; exact this)
              have FIN : Hid (∀ w6, w6 = w5.drew.setCells G q (By p.B) → OneC w w6 D 10 (Pd.write m p.a p.B).2 c5 ∧ Blk w6 G 5 (By (spl l q p.B))) := (show _ from fun w6 hw6 => by
                refine ⟨?_, ?_⟩
                · rw [hw6]
                  exact O5.out.chg ((Chg.drew _ _).trans (Chg.setCells (F := fun k => k = G) _ rfl q _)) (fun k hk _ => by rw [hk]; exact C5'.out)
                · have := Blk.over (By p.B) B5.out.drew q (by rw [By_length, By_length, hlen, HLB.out]; omega)
                  rw [By_over] at this
                  rw [hw6]
                  exact this)
              have BD : Hid (Blk w5.drew G 5 (By l)) := B5.out.drew
              clear O5 B5 HB hz
              refine wp_region_still_tail 6 Try.mixed (by kernel_rfl) ?_
              simp only [List.take_succ_cons, List.take_zero, List.drop_succ_cons, List.drop_zero]
              by_cases hqz : q < Z
              · have hs1 : ∀ W, (Instr.sliceAt 29 (.slice (some ⟨G, 0, none⟩) Z Z) (some (.int .i64 (q : Int))) none none).run Try.prog W = .ok (.slice (some ⟨G, q, none⟩) (Z - q) (Z - q)) W := fun W => slice_at G Z q hqz W
                iterate 6 still_step
                refine wpStill_nil ?_
                refine wpList_copy_bytes rfl _ _ 29 29 rfl 5 Try.underlying29 Try.size5 G q (Z - q) (Z - q) _ p.B rfl rfl hRd.out p.B lb (List.take_of_length_le (by have := HZ.out; have := HLB.out; omega)) HLB.out 5 (By l) BD.out (by rw [By_length, hlen]; have := HZ.out; omega) ?_
                obtain ⟨w6, hw6⟩ : ∃ x, x = w5.drew.setCells G q (By p.B) := ⟨_, rfl⟩
                obtain ⟨f1, f2⟩ := FIN.out w6 hw6
                show wpList _ _ _ _ _ (w5.drew.setCells G q (By p.B))
                rw [← hw6]
                have O6 : Hid (OneC w w6 D 10 (Pd.write m p.a p.B).2 c5) := f1
                have B6 : Hid (Blk w6 G 5 (By (spl l q p.B))) := f2
                clear FIN hw6 f1 f2 hs1 hRd BD c1 c3 c1d c3d E5
                go_wp2_with fail
                go_roundg (gk - 1)
                case measure => omega
                case rel => exact ⟨i + 1, _, _, c5, by omega, by go_num, O6, P5, B6, C5'⟩
              · obtain rfl : q = Z := by have := HZ.out; omega
                have hl0 : lb = 0 := by have := HZ.out; omega
                have hB0 : p.B = [] := List.eq_nil_of_length_eq_zero (by rw [HLB.out]; exact hl0)
                obtain ⟨x, hs1⟩ := slice_end G q
                iterate 6 still_step
                refine wpStill_nil ?_
                refine wpList_copy_nothing rfl _ _ 29 29 rfl 5 Try.underlying29 Try.size5 _ _ _ _ _ _ rfl rfl (by simp) ?_
                obtain ⟨w6, hw6⟩ : ∃ x, x = w5.drew := ⟨_, rfl⟩
                obtain ⟨f1, f2⟩ := FIN.out w6 (by rw [hB0]; exact hw6)
                show wpList _ _ _ _ _ w5.drew
                rw [← hw6]
                have O6 : Hid (OneC w w6 D 10 (Pd.write m p.a p.B).2 c5) := f1
                have B6 : Hid (Blk w6 G 5 (By (spl l q p.B))) := f2
                clear FIN hw6 f1 f2 hs1 hRd BD c1 c3 c1d c3d E5
                go_wp2_with fail
                go_roundg (gk - 1)
                case measure => omega
                case rel => exact ⟨i + 1, _, _, c5, by omega, by go_num, O6, P5, B6, C5'⟩
            | false =>
              obtain ⟨hw1, hw2⟩ := PR.out.refuse p.a p.B hf
              rw [hw2] at O5
              have B5' := B5
              have hne : ¬ ((Pd.write m p.a p.B).1 : Int) = 0 := by rcases hw1 with h | h <;> rw [h] <;> decide
              obtain ⟨r, HR⟩ : ∃ r : Int, Hid (((Pd.write m p.a p.B).1 : Int) = r) := ⟨_, rfl⟩
              rw [HR.out] at hne ⊢
              have hr0 : decide (r = 0) = false := by simp [hne]
              unfold fitsB at hf
              rw [HLB.out] at hf
              obtain ⟨pa, HPA⟩ : ∃ pa, Hid (p.a = pa) := ⟨_, rfl⟩
              rw [HPA.out] at hf c1
              clear hw1 hw2 E5 HB hz
              by_cases u1 : 0 ≤ pa
              · by_cases u2 : pa ≤ 320
                · obtain ⟨q, rfl⟩ : ∃ q : Nat, pa = (q : Int) := ⟨pa.toNat, by omega⟩
                  have u3 : decide ((lb : Int) ≤ 320 - (q : Int)) = false := by simpa [u1, u2] using hf
                  clear hf
                  go_wp2_with fail
                  go_roundg (gk - 1)
                  case measure => omega
                  case rel => exact ⟨i + 1, _, _, c5, by omega, by go_num, O5, PR, B5', C5'⟩
                · have u2' : decide (pa ≤ 320) = false := by simp [u2]
                  clear hf
                  go_wp2_with fail
                  go_roundg (gk - 1)
                  case measure => omega
                  case rel => exact ⟨i + 1, _, _, c5, by omega, by go_num, O5, PR, B5', C5'⟩
              · have u1' : decide (0 ≤ pa) = false := by simp [u1]
                clear hf
                go_wp2_with fail
                go_roundg (gk - 1)
                case measure => omega
                case rel => exact ⟨i + 1, _, _, c5, by omega, by go_num, O5, PR, B5', C5'⟩
          · have c0 := E4.out.cell (j := 0) rfl
            have n2 : decide (p.kind = 2) = false := by simp [hk2]
            have n0 : decide (p.kind = 0) = false := by simp [hk0]
            go_wp2_with fail
            go_roundg (gk - 1)
            case measure => omega
            case rel => exact ⟨i + 1, m, l, c, by omega, by go_num, O4, PR, B4, CR⟩
      · obtain rfl : i = n := by omega
        have hlen : l.length = 320 := by have := PR.out.ok.now; rw [PR.out.now] at this; exact this
        go_wp2_with fail
        refine (OneC.read OR.out 0 320 (by decide)).mono ?_
        rintro e w4 ⟨v4, rfl, r4, o4, b4⟩
        rw [show Pd.read m 0 320 = (l, 0) from PR.out.all] at r4 ⊢
        have O4 : Hid (OneC w w4 D 10 m c) := o4
        have B4 : Hid (Blk w4 G 5 (By l)) := BR.out.kept b4
        have RG : Rd w4 (.slice (some ⟨G, 0, none⟩) Z Z) l := by
          refine ⟨_, Z, by rw [hlen, HZ.out], by rw [hlen, HZ.out]; exact Nat.le_refl _, by rw [HZ.out]; simp [maxLen], fun h => by simp at h, fun _ => ⟨G, 0, rfl, B4.out.lt, fun j u hj => ?_⟩⟩
          rw [Nat.zero_add]
          exact B4.out.cell hj
        have k1 := r4.conv (P := Try.prog) 29 9 Try.underlying29 Try.underlying5 Try.underlying9
        have k2 := RG.conv (P := Try.prog) 29 9 Try.underlying29 Try.underlying5 Try.underlying9
        clear r4 RG B4 o4 b4 BR
        go_wp2_with fail
        refine (OneC.on O4.out).mono ?_
        rintro e w5 ⟨rfl, hw⟩
        subst hw
        rw [PR.out.off]
        go_wp2_with fail
        refine (lives_any w5).mono ?_
        rintro e w6 ⟨rfl, hb6⟩
        have B6 : Hid (Below w.heap.size w w6) := O4.out.below.trans (hb6.mono O4.out.below.size)
        clear hb6
        go_wp2
        go_ret
        exact ⟨rfl, B6.out⟩
end Go.Proofs.Ytnkcjhfdmnpckaa
