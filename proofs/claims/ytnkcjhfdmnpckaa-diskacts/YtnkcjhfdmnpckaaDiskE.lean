/-
  (*disk.Disk).settle: what the call does.
-/
import Derived.Test.YtnkcjhfdmnpckaaDiskY
namespace Go.Proofs.Ytnkcjhfdmnpckaa
open Go.RowKit
open Pd (spl spl_length)
/-- What stands in a disk's lists hangs together. -/
structure Wf (n N : Nat) (s : St) : Prop where
  nodup : s.order.Nodup
  low : ∀ k ∈ s.order, k < n
  keys : ∀ k : Int, (s.f k).isSome = true → ∃ j, j ∈ s.order ∧ k = ((j : Nat) : Int)
  cnt : N = (s.order.filter fun j : Nat => (s.f j).isSome).length
theorem filter_del {l : List Nat} {p : Nat → Bool} {k : Nat} (hn : l.Nodup) (hk : k ∈ l) (hp : p k = true) : (l.filter fun j => !decide (j = k) && p j).length + 1 = (l.filter p).length := by
  induction l with
  | nil => cases hk
  | cons x r ih =>
    rw [List.nodup_cons] at hn
    by_cases hx : x = k
    · subst hx
      have e : r.filter (fun j => !decide (j = x) && p j) = r.filter p := List.filter_congr fun j hj => by
        have : ¬ j = x := fun e => hn.1 (by rw [← e]; exact hj)
        simp [this]
      rw [List.filter_cons_of_neg (by simp), List.filter_cons_of_pos hp, e, List.length_cons]
    · have hr : k ∈ r := (List.mem_cons.1 hk).resolve_left (fun e => hx e.symm)
      have := ih hn.2 hr
      cases hpx : p x with
      | true => rw [List.filter_cons_of_pos (by simp [hx, hpx]), List.filter_cons_of_pos hpx, List.length_cons, List.length_cons]; omega
      | false => rw [List.filter_cons_of_neg (by simp [hpx]), List.filter_cons_of_neg (by simp [hpx])]; exact this
theorem Wf.del {n N : Nat} {s : St} (h : Wf n N s) (k : Int) (safe : List UInt8) : Wf n (if (s.f k).isSome then N - 1 else N) { s with f := del s.f k, safe := safe } := by
  refine ⟨h.nodup, h.low, fun j hj => h.keys j ?_, ?_⟩
  · have hj' : (Go.Proofs.Ytnkcjhfdmnpckaa.del s.f k j).isSome = true := hj
    unfold Go.Proofs.Ytnkcjhfdmnpckaa.del at hj'
    by_cases e : j = k
    · rw [if_pos e] at hj'; cases hj'
    · rwa [if_neg e] at hj'
  · show _ = (s.order.filter fun j : Nat => (Go.Proofs.Ytnkcjhfdmnpckaa.del s.f k j).isSome).length
    cases hf : (s.f k).isSome with
    | true =>
      obtain ⟨j, hj, rfl⟩ := h.keys k hf
      have := filter_del (p := fun j : Nat => (s.f j).isSome) h.nodup hj hf
      have e : (s.order.filter fun i : Nat => (Go.Proofs.Ytnkcjhfdmnpckaa.del s.f j i).isSome) = (s.order.filter fun i : Nat => !decide (i = j) && (s.f i).isSome) := List.filter_congr fun i _ => by
        unfold Go.Proofs.Ytnkcjhfdmnpckaa.del
        by_cases e : i = j
        · rw [if_pos (by omega)]; simp [e]
        · rw [if_neg (by omega)]; simp [e]
      rw [e, if_pos rfl, h.cnt]
      omega
    | false =>
      have e : (s.order.filter fun i : Nat => (Go.Proofs.Ytnkcjhfdmnpckaa.del s.f k i).isSome) = (s.order.filter fun i : Nat => (s.f i).isSome) := List.filter_congr fun i _ => by
        unfold Go.Proofs.Ytnkcjhfdmnpckaa.del
        by_cases e : (i : Int) = k
        · rw [if_pos e, e, hf]; rfl
        · rw [if_neg e]
      rw [e, if_neg (by simp)]
      exact h.cnt
/-- What settle makes of a disk. -/
def settle1 (s : St) (k : Int) : St := match s.f k with
  | some l => { s with f := del s.f k, safe := spl s.safe (32 * k.toNat) l }
  | none => s
def settleS (s : St) : List Int → St
  | [] => s
  | k :: r => settleS (settle1 s k) r
theorem settleS_append (s : St) (k : Int) : ∀ l : List Int, ∀ s, settleS s (l ++ [k]) = settle1 (settleS s l) k
  | [], _ => rfl
  | _ :: r, _ => settleS_append s k r _
theorem settleS_take (s : St) (l : List Int) (i : Nat) (hi : i < l.length) : settleS s (l.take (i + 1)) = settle1 (settleS s (l.take i)) l[i] := by
  rw [List.take_add_one, List.getElem?_eq_getElem hi, Option.toList_some, settleS_append s]
theorem settle1_order (s : St) (k : Int) : (settle1 s k).order = s.order := by unfold settle1; split <;> rfl
theorem settleS_order : ∀ (l : List Int) (s : St), (settleS s l).order = s.order
  | [], _ => rfl
  | k :: r, s => (settleS_order r _).trans (settle1_order s k)
theorem settle1_same (s : St) (k : Int) : (settle1 s k).on = s.on ∧ (settle1 s k).ops = s.ops ∧ (settle1 s k).keep = s.keep ∧ (settle1 s k).torn = s.torn := by unfold settle1; split <;> exact ⟨rfl, rfl, rfl, rfl⟩
theorem settleS_same : ∀ (l : List Int) (s : St), (settleS s l).on = s.on ∧ (settleS s l).ops = s.ops ∧ (settleS s l).keep = s.keep ∧ (settleS s l).torn = s.torn
  | [], _ => ⟨rfl, rfl, rfl, rfl⟩
  | k :: r, s => by
    obtain ⟨a, b, c, d⟩ := settleS_same r (settle1 s k)
    obtain ⟨a', b', c', d'⟩ := settle1_same s k
    exact ⟨a.trans a', b.trans b', c.trans c', d.trans d'⟩
/-- A sector stored. -/
theorem OwnS.store {w w' : World} {S n cap : Nat} {l : List UInt8} (h : OwnS w S n cap l) (k : Nat) (hk : k < n) (y : List UInt8) (hy : y.length ≤ 32) (hw : w' = w.setCells S (k * 32) (By y)) : OwnS w' S n cap (spl l (32 * k) y) := by
  obtain ⟨cur, hb, ht, hl, h1, h2⟩ := h.blk
  have hll := h.len
  subst hw
  have hov := Blk.over (By y) hb (k * 32) (by rw [By_length]; omega)
  refine OwnS.of_blk hov ?_ (by rw [spl_length (by omega)]; exact hll) (by rw [over_length (by rw [By_length]; omega)]; exact hl) h1 h2
  have e : (over cur (k * 32) (By y)).take (n * 32) = over (cur.take (n * 32)) (k * 32) (By y) := by
    unfold over
    rw [By_length, List.take_append, List.take_append, List.take_take, List.length_append, List.length_take, By_length, List.take_drop]
    rw [show min (n * 32) (k * 32) = k * 32 by omega, List.take_take, show min (k * 32) (n * 32) = k * 32 by omega, show min (k * 32) cur.length = k * 32 by omega]
    rw [List.take_of_length_le (l := By y) (by rw [By_length]; omega)]
    congr 2
    congr 1
    omega
  rw [e, ht, By_over, Nat.mul_comm]

set_option maxHeartbeats 2000000 in
set_option maxRecDepth 100000 in
theorem settle_any {w : World} {D S M n cap N : Nat} {vo vk : Value} {s : St} (h : At w D S M n cap N vo vk s) (hW : Wf n N s) (v : Value) (l : List Int) (hr : RdN w v l) (hl : ∀ k ∈ l, (Lit.int .i64 k).wf = true)
    (hvb : ∀ c, InB v c → c ≠ S ∧ c ≠ M) (hvk : ∀ c, InB vk c → c ≠ S ∧ c ≠ M) (hvo : ∀ c, vo.ownBlock = some c → c ≠ S ∧ c ≠ M) :
    Calls Try.prog 36 #[.pointer (some ⟨D, 0, none⟩), v] w fun e w' => e = .returned (.tuple #[]) ∧ ∃ N', At w' D S M n cap N' vo vk (settleS s l) ∧ Wf n N' (settleS s l) ∧ Chg (fun c => c = S ∨ c = M) w w' := by
  have HA : Hid (At w D S M n cap N vo vk s) := h
  have HW : Hid (Wf n N s) := hW
  have HR : Hid (RdN w v l) := hr
  have HL : Hid (∀ k ∈ l, (Lit.int .i64 k).wf = true) := hl
  have HVB : Hid (∀ c, InB v c → c ≠ S ∧ c ≠ M) := hvb
  have HVK : Hid (∀ c, InB vk c → c ≠ S ∧ c ≠ M) := hvk
  have HVO : Hid (∀ c, vo.ownBlock = some c → c ≠ S ∧ c ≠ M) := hvo
  have hn := h.max
  clear h hW hl hvb hvk hvo
  obtain ⟨a, cp, rfl, h1, h2, h3, h4⟩ := hr
  clear h4 h3
  have hz := zeroS
  obtain ⟨Z, HZ⟩ : ∃ Z, Hid (By Zs = Z) := ⟨_, rfl⟩
  rw [HZ.out] at hz
  have hzl : Z.length = 32 := by rw [← HZ.out]; rfl
  have hlm : l.length ≤ 9223372036854775807 := by unfold maxLen at h2; omega
  go_enter Try.func36, Try.ntmps36
  go_wp2_with fail
  go_loopg [10] l.length (fun g x wr => ∃ i : Nat, g + i = l.length ∧ x = .int .i64 (i : Int) ∧ ∃ Nr, Hid (At wr D S M n cap Nr vo vk (settleS s (l.take i))) ∧ Hid (Wf n Nr (settleS s (l.take i))) ∧ Hid (Chg (fun c => c = S ∨ c = M) w wr))
  case atStart => exact ⟨0, by omega, rfl, N, HA, HW, Chg.refl _ _⟩
  case round =>
    obtain ⟨i, hgi, rfl, Nr, AR, WR, UR⟩ := hrel
    by_cases hlt : i < l.length
    · have q1 : (i : Int) < (l.length : Int) := by omega
      obtain ⟨q, HQ⟩ : ∃ q, Hid (l[i] = q) := ⟨l[i], (show l[i] = l[i] from rfl)⟩
      have hqw : (Lit.int .i64 q).wf = true := by rw [← HQ.out]; exact HL.out _ (List.getElem_mem hlt)
      have RR := HR.out.chg UR.out (fun c hc e => e.elim (HVB.out c hc).1 (HVB.out c hc).2)
      obtain ⟨a', cp', e', _, _, _, h4⟩ := RR
      simp only [Value.slice.injEq] at e'
      obtain ⟨rfl, -, rfl⟩ := e'
      obtain ⟨b, off, rfl, hlb, hc⟩ := h4 (by omega)
      have cq := hc i hlt
      rw [HQ.out] at cq
      clear hc h4
      have HST : Hid (settleS s (l.take (i + 1)) = settle1 (settleS s (l.take i)) q) := (show _ = _ by rw [settleS_take s l i hlt, HQ.out])
      obtain ⟨sr, HSR⟩ : ∃ sr, Hid (settleS s (l.take i) = sr) := ⟨_, rfl⟩
      rw [HSR.out] at AR WR HST
      have c1 := AR.out.d.cell (j := 1) rfl
      have c2 := AR.out.d.cell (j := 2) rfl
      obtain ⟨x, hx, hfx, hlk⟩ := AR.out.mp.look q hqw
      have X1 : Hid (∀ u ∈ By x, u.oneCell' = true) := By_one x
      have HXl : (By x).length = 32 := by rw [By_length, hx]
      obtain ⟨XX, HXX⟩ : ∃ X, Hid (By x = X) := ⟨_, rfl⟩
      rw [HXX.out] at hlk X1 HXl
      obtain ⟨E, HE⟩ : ∃ C, Hid (wr.heap.size = C) := ⟨_, rfl⟩
      go_upto_region 4 with (first
        | (refine wpList_store_new rfl 68 _ _ rfl wr _ _ _ rfl rfl rfl (by simpa [HXl] using Try.size68) (by simp [hzl, HXl]) (all_one X1.out) ?_)
        | fail)
      rw [HE.out]
      obtain ⟨w4, hw4⟩ : ∃ x, x = wr.alloc (.cells XX.toArray 68 (0, 0)) := ⟨_, rfl⟩
      rw [← hw4]
      have L4 : Hid (Below E wr w4) := (show Below _ _ _ by rw [hw4]; exact (Below.refl _ _).alloc (by rw [HE.out]; exact Nat.le_refl _) _)
      have A4 : Hid (At w4 D S M n cap Nr vo vk sr) := AR.out.kept (by rw [HE.out]; exact L4.out)
      have U4 : Hid (Chg (fun c => c = S ∨ c = M) w w4) := UR.out.trans (Chg.of_below (by rw [HE.out]; exact L4.out))
      have Y4 : Hid (Blk w4 E 68 XX) := (show Blk _ _ _ _ by rw [hw4, ← HE.out]; exact Blk.new wr 68 XX)
      have HES : Hid (E ≠ S ∧ E ≠ M ∧ E ≠ D) := (show _ from ⟨fun e => by have := AR.out.sf.lt; rw [HE.out] at this; omega, fun e => by have := AR.out.mp.lt; rw [HE.out] at this; omega, fun e => by have := AR.out.d.lt; rw [HE.out] at this; omega⟩)
      clear hw4 hlk c1 c2 cq AR
      cases hf : sr.f q with
      | some y =>
        obtain rfl := hfx y hf
        simp only [Option.isSome_some]
        clear hfx
        obtain ⟨j, hj, HJ⟩ : ∃ j : Nat, j < n ∧ Hid (q = (j : Int)) := by
          obtain ⟨j, hj, e⟩ := WR.out.keys q (by rw [hf]; rfl)
          exact ⟨j, WR.out.low j hj, e⟩
        have q2 : q < (n : Int) := by have := HJ.out; omega
        have q3 : 0 ≤ q := by have := HJ.out; omega
        go_upto_region 5 with fail
        have c1 := A4.out.d.drew.cell (j := 1) rfl
        have r4 := Y4.out.drew.range0
        refine wp_region_still_tail 7 Try.mixed (by kernel_rfl) ?_
        simp only [List.take_succ_cons, List.take_zero, List.drop_succ_cons, List.drop_zero]
        iterate 5 still_step
        refine wpStill_load_mid rfl 68 _ rfl E 0 rfl XX _ r4 Try.underlying68 rfl (by rw [HXl]; exact Try.size68) ?_
        still_step
        refine wpStill_nil ?_
        obtain ⟨jt, HJT⟩ : ∃ jt, Hid (q.toNat = jt) := ⟨_, rfl⟩
        have hjt : jt = j := by rw [← HJT.out, HJ.out]; simp
        subst hjt
        rw [HJT.out]
        obtain ⟨cur, hcur, hct, hcl, hnc, hcm⟩ := A4.out.sf.blk
        have t4 := hcur.drew.there (jt * 32) 32 (by omega)
        clear hcur hct hcl hcm
        refine wpList_store_mid rfl 68 _ _ rfl S (jt * 32) _ rfl rfl (by simpa [HXl] using t4) (by simpa [HXl] using Try.size68) (all_one X1.out) ?_
        obtain ⟨w5, hw5⟩ : ∃ x, x = w4.drew.setCells S (jt * 32) XX := ⟨_, rfl⟩
        have hw5' : ({ heap := w4.heap, tape := w4.tape, drawn := w4.drawn + 1, os := w4.os, output := w4.output } : World).setCells S (jt * 32) XX.toArray.toList = w5 := hw5.symm
        rw [hw5']
        have UA : Hid (Chg (fun c => c = S) w4 w5) := (show Chg _ _ _ by rw [hw5]; exact (Chg.drew _ _).trans (Chg.setCells (F := fun c => c = S) _ rfl _ _))
        have A5 : Hid (At w5 D S M n cap Nr vo vk { sr with safe := spl sr.safe (32 * jt) y }) := (show At _ _ _ _ _ _ _ _ _ _ by
          have hA := A4.out
          refine ⟨hA.d.chg UA.out hA.DS, ?_, hA.mp.chg UA.out (fun e => hA.SM e.symm), hA.od.chg UA.out (fun c hc e => (HVO.out c hc).1 e), hA.kp.chg UA.out (fun c hc e => (HVK.out c hc).1 e), hA.kw, hA.pos, hA.max⟩
          exact hA.drew.sf.store jt hj y (by omega) (by rw [HXX.out]; exact hw5))
        have U5 : Hid (Chg (fun c => c = S ∨ c = M) w w5) := U4.out.trans (UA.out.mono (fun _ _ e => .inl e))
        clear hw5 hw5' UA t4 c1 r4 A4 U4 Y4
        have c2 := A5.out.d.cell (j := 2) rfl
        go_wp2_with (first
          | (at_delete; refine wpList_mapdel rfl _ _ rfl M Nr sr.f rfl A5.out.mp q hqw rfl ?_; intro w6 m6 t6; have M6 : Hid _ := m6; have T6 : Hid _ := t6; clear m6 t6)
          | fail)
        go_roundg (gk - 1)
        case measure => omega
        case rel =>
          have hT : Chg (fun c => c = M) w5 w6 := Chg.turned T6.out rfl
          have hA := A5.out
          have e1 : settle1 sr q = { sr with f := del sr.f q, safe := spl sr.safe (32 * q.toNat) y } := by unfold settle1; rw [hf]
          refine ⟨i + 1, by omega, by go_num, (if (sr.f q).isSome then Nr - 1 else Nr), ?_, ?_, U5.out.trans (hT.mono (fun _ _ e => .inr e))⟩
          · show At _ _ _ _ _ _ _ _ _ _
            rw [HST.out, e1, HJT.out]
            exact ⟨hA.d.chg hT hA.DM, hA.sf.chg hT hA.SM, M6.out, hA.od.chg hT (fun c hc e => (HVO.out c hc).2 e), hA.kp.chg hT (fun c hc e => (HVK.out c hc).2 e), hA.kw, hA.pos, hA.max⟩
          · show Wf _ _ _
            rw [HST.out, e1]
            exact WR.out.del q (spl sr.safe (32 * q.toNat) y)
      | none =>
        simp only [Option.isSome_none]
        go_wp2_with fail
        go_roundg (gk - 1)
        case measure => omega
        case rel =>
          have e1 : settle1 sr q = sr := by unfold settle1; rw [hf]
          refine ⟨i + 1, by omega, by go_num, Nr, ?_, ?_, U4⟩
          · rw [HST.out, e1]; exact A4
          · rw [HST.out, e1]; exact WR
    · obtain rfl : i = l.length := by omega
      rw [List.take_length] at AR WR
      go_wp2_with fail
      go_end0
      exact ⟨rfl, Nr, AR.out, WR.out, UR.out⟩
end Go.Proofs.Ytnkcjhfdmnpckaa
