/-
  The reference's store in memory; its may, Within, Wrote, Get: what the calls do.
-/
import Derived.Test.YtgaoionnfkbhaaaRfG
namespace Go.Proofs.Ytgaoionnfkbhaaa
open Go.RowKit
/-- A key of the reference's: its name, and its chain's slice. -/
abbrev RK := ByteArray × (Option Addr × Nat × Nat)
def rkv (x : RK) : Value := .slice x.2.1 x.2.2.1 x.2.2.2
def RKC (x : RK) : List Value := [.string x.1, .slice x.2.1 x.2.2.1 x.2.2.2]
theorem RKC_one (x : RK) : ∀ u ∈ RKC x, u.oneCell' = true := by
  intro u hu
  simp only [RKC, List.mem_cons, List.not_mem_nil, or_false] at hu
  rcases hu with rfl | rfl <;> rfl
def RKE : Enc RK := ⟨RKC, 2, fun _ => rfl, RKC_one⟩
theorem Try.info69 : (Try.prog.info? 69).map (fun i => (i.zero, i.size, i.bytes)) = some (some (.agg #[.string ⟨#[]⟩, .slice none 0 0]), 2, 40) := by kernel_rfl
theorem Try.size69 : (Try.prog.info? 69).map (·.size) = some 2 := by kernel_rfl
theorem Zrkey : ∀ W : World, (zeroValue 69).run Try.prog W = .ok (.agg #[.string ⟨#[]⟩, .slice none 0 0]) W := fun W => by kernel_rfl
def RC (vr : Value) (last floor : Int) : List Value := [vr, .int .i64 last, .int .i64 floor]
/-- The reference's store at R: the keys of s in order, each with its chain. -/
structure RS (w : World) (R : Nat) (vr : Value) (rs : List RK) (s : SP) : Prop where
  d : Blk w R 30 (RC vr s.last s.floor)
  own : OwnG RKE w 0 69 vr rs
  inv : Inv s (rs.map (·.1))
  ch : ∀ x ∈ rs, RdV w (rkv x) (s.ch x.1)
  ap : ∀ x ∈ rs, ∀ b, InB (rkv x) b → b ≠ R ∧ vr.ownBlock ≠ some b
theorem RS.kept {w w' : World} {R : Nat} {vr : Value} {rs : List RK} {s : SP} (h : RS w R vr rs s) (hb : Below w.heap.size w w') : RS w' R vr rs s :=
  ⟨h.d.kept hb, h.own.kept hb, h.inv, fun x hx => (h.ch x hx).kept hb, h.ap⟩
/-- The blocks that it is made of. -/
def RB (R : Nat) (vr : Value) (rs : List RK) (b : Nat) : Prop := b = R ∨ vr.ownBlock = some b ∨ ∃ x ∈ rs, InB (rkv x) b
theorem vmay_any {w : World} {R : Nat} {vr : Value} {rs : List RK} {s : SP} (h : RS w R vr rs s) (n : Int) : Calls Try.prog 47 #[.pointer (some ⟨R, 0, none⟩), .int .i64 n] w fun e w' => e = .returned (.int .i64 (mayP s n)) ∧ w' = w := by
  have c1 := h.d.cell (j := 1) rfl
  have c2 := h.d.cell (j := 2) rfl
  obtain ⟨r, HR⟩ : ∃ r, Hid (mayP s n = r) := ⟨_, rfl⟩
  rw [HR.out]
  clear h
  go_enter Try.func47, Try.ntmps47
  by_cases h1 : n < s.floor
  · have q1 : decide (n < s.floor) = true := by simp [h1]
    obtain rfl : r = 11 := by rw [← HR.out]; unfold mayP; rw [if_pos h1]
    go_wp2
    go_ret
    exact ⟨rfl, rfl⟩
  · have q1 : decide (n < s.floor) = false := by simp; omega
    by_cases h2 : s.last < n
    · have q2 : decide (s.last < n) = true := by simp [h2]
      obtain rfl : r = 2 := by rw [← HR.out]; unfold mayP; rw [if_neg h1, if_pos h2]
      go_wp2
      go_ret
      exact ⟨rfl, rfl⟩
    · have q2 : decide (s.last < n) = false := by simp; omega
      obtain rfl : r = 0 := by rw [← HR.out]; unfold mayP; rw [if_neg h1, if_neg h2]
      go_wp2
      go_ret
      exact ⟨rfl, rfl⟩
set_option maxRecDepth 100000 in
theorem vWithin_any {w : World} {R : Nat} {vr : Value} {rs : List RK} {s : SP} (h : RS w R vr rs s) (fa tb : ByteArray) (n : Int) : Calls Try.prog 20 #[.pointer (some ⟨R, 0, none⟩), .string fa, .string tb, .int .i64 n] w fun e w' => e = .returned (.bool (withinS s (rs.map (·.1)) fa tb n)) ∧ Below w.heap.size w w' := by
  have HS := hide h
  obtain ⟨a, cp, rfl⟩ := h.own.rd.slice
  have hn : rs.length ≤ 9223372036854775807 := Nat.le_trans h.own.rd.cap h.own.rd.max
  clear h
  have hz := Zrkey
  obtain ⟨n_, HN⟩ : ∃ n, Hid (rs.length = n) := ⟨_, rfl⟩
  rw [HN.out] at HS hn
  have c0 := HS.out.d.cell (j := 0) rfl
  go_enter Try.func20, Try.ntmps20
  go_wp2_with fail
  go_loopg [16] n_ (fun g x wr => ∃ (i : Nat), g + i = n_ ∧ x = .int .i64 (i : Int) ∧ Hid (withinS s ((rs.take i).map (·.1)) fa tb n = false) ∧ Hid (Below w.heap.size w wr))
  case atStart => exact ⟨0, by omega, rfl, rfl, Below.refl _ _⟩
  case round =>
    obtain ⟨i, hgi, rfl, HW, LR⟩ := hrel
    by_cases hlt : i < n_
    · have q2 : (i : Int) < (n_ : Int) := by omega
      have hrd := hide (HS.out.own.rd.kept LR.out)
      obtain ⟨b, off, rfl, hlb4, hx⟩ := (hrd.out).nth (by omega)
      have hlt' : i < rs.length := by rw [HN.out]; exact hlt
      have hr : wr.rangeAt b (off + i * 2) (RKC rs[i]) := hx i hlt'
      obtain ⟨p, HPp⟩ : ∃ p, Hid (rs[i] = p) := ⟨rs[i], (show rs[i] = rs[i] from rfl)⟩
      rw [HPp.out] at hr
      clear hx hlb4
      go_upto_region 4 with (first
        | (refine wpList_load_mid rfl 69 _ rfl b (off + i * 2) rfl (RKC p) _ hr Try.underlying69 rfl Try.size69 ?_)
        | (refine wpList_store_new rfl 69 _ _ rfl wr _ (RKC p).toArray _ rfl rfl rfl Try.size69 rfl (all_one (RKC_one p)) ?_)
        | fail)
      obtain ⟨E, HE⟩ : ∃ E, Hid (wr.heap.size = E) := ⟨_, rfl⟩
      rw [HE.out]
      obtain ⟨w4, hw4⟩ : ∃ x, x = wr.alloc (.cells (RKC p).toArray 69 (0, 0)) := ⟨_, rfl⟩
      rw [← hw4]
      have G4 : Hid (Below wr.heap.size wr w4) := (show Below _ _ _ by rw [hw4]; exact (Below.refl _ _).alloc (Nat.le_refl _) _)
      have B4 : Hid (Blk w4 E 69 (RKC p)) := (show Blk _ _ _ _ by rw [hw4, ← HE.out]; exact Blk.new wr 69 (RKC p))
      clear hw4 hr
      have L4 : Hid (Below w.heap.size w w4) := LR.out.trans (G4.out.mono LR.out.size)
      have HC := hide ((HS.out.ch p (by rw [← HPp.out]; exact List.getElem_mem hlt')).kept L4.out)
      have HT : Hid (withinS s ((rs.take (i + 1)).map (·.1)) fa tb n = (inr fa tb p.1 && wroteS s p.1 n)) := (show _ = _ by
        have := HW.out
        unfold withinS at this ⊢
        rw [List.take_succ_eq_append_getElem hlt', HPp.out, List.map_append, List.filter_append, List.any_append, this]
        simp only [List.map_cons, List.map_nil, Bool.false_or]
        cases hq : inr fa tb p.1 with
        | true => simp [hq]
        | false => simp [hq])
      have HM : Hid (∀ b, withinS s ((rs.take (i + 1)).map (·.1)) fa tb n = true → withinS s (rs.map (·.1)) fa tb n = b → b = true) := (show ∀ b, _ from fun b h1 h2 => by
        rw [← h2]
        rw [within_iff] at h1 ⊢
        obtain ⟨x, hx, h3⟩ := h1
        refine ⟨x, ?_, h3⟩
        obtain ⟨y, hy, rfl⟩ := List.mem_map.1 hx
        exact List.mem_map.2 ⟨y, List.mem_of_mem_take hy, rfl⟩)
      obtain ⟨ky, ca, cn, cc⟩ := p
      have hw : wroteS s ky n = decide (0 < sinceP (s.ch ky) n) := rfl
      have d0 := B4.out.cell (j := 0) rfl
      have d1 := B4.out.cell (j := 1) rfl
      simp only [rkv] at d0 d1 HC HT
      have CS := hide (ksince_any HC.out n)
      obtain ⟨c, HCN⟩ : ∃ c, Hid (sinceP (s.ch ky) n = c) := ⟨_, rfl⟩
      rw [HCN.out] at CS hw
      cases h1 : lt ky fa with
      | true =>
        have q3 : ∀ W, (binOp .geq 9 (.string ky) (.string fa)).run Try.prog W = .ok (.bool false) W := fun W => by rw [sge, h1]; rfl
        have hf : inr fa tb ky = false := by unfold inr; rw [h1]; rfl
        have HT' : Hid (withinS s ((rs.take (i + 1)).map (·.1)) fa tb n = false) := (show _ = _ by rw [HT.out, hf]; rfl)
        go_wp2_with fail
        go_roundg (gk - 1)
        case measure => omega
        case rel => exact ⟨i + 1, by omega, by go_num, HT', L4⟩
      | false =>
        have q3 : ∀ W, (binOp .geq 9 (.string ky) (.string fa)).run Try.prog W = .ok (.bool true) W := fun W => by rw [sge, h1]; rfl
        cases h2 : lt ky tb with
        | false =>
          have q4 : Op.bytesLess ky.toList tb.toList = false := h2
          have hf : inr fa tb ky = false := by unfold inr; rw [h1, h2]; rfl
          have HT' : Hid (withinS s ((rs.take (i + 1)).map (·.1)) fa tb n = false) := (show _ = _ by rw [HT.out, hf]; rfl)
          go_wp2_with fail
          go_roundg (gk - 1)
          case measure => omega
          case rel => exact ⟨i + 1, by omega, by go_num, HT', L4⟩
        | true =>
          have q4 : Op.bytesLess ky.toList tb.toList = true := h2
          have hin : inr fa tb ky = true := by unfold inr; rw [h1, h2]; rfl
          go_wp2_with fail
          refine CS.out.mono ?_
          rintro e w5 ⟨rfl, hb5⟩
          have L5 : Hid (Below w.heap.size w w5) := L4.out.trans (hb5.mono L4.out.size)
          clear hb5 CS
          by_cases hc : 0 < c
          · have q5 : decide (0 < c) = true := by simp [hc]
            have HY : Hid (withinS s (rs.map (·.1)) fa tb n = true) := (show _ = _ from HM.out _ (by rw [HT.out, hin, hw]; simpa using hc) rfl)
            go_wp2_with fail
            go_ret
            exact ⟨by rw [HY.out]; rfl, L5.out⟩
          · have q5 : decide (0 < c) = false := by simp; omega
            have HT' : Hid (withinS s ((rs.take (i + 1)).map (·.1)) fa tb n = false) := (show _ = _ by rw [HT.out, hw, q5, Bool.and_false])
            go_wp2_with fail
            go_roundg (gk - 1)
            case measure => omega
            case rel => exact ⟨i + 1, by omega, by go_num, HT', L5⟩
    · obtain rfl : i = n_ := by omega
      have q2 : ¬ (i : Int) < (i : Int) := by omega
      have HY : Hid (withinS s (rs.map (·.1)) fa tb n = false) := (show _ = _ by
        have := HW.out
        rw [List.take_of_length_le (Nat.le_of_eq HN.out)] at this
        exact this)
      go_wp2_with fail
      go_ret
      exact ⟨by rw [HY.out]; rfl, LR.out⟩
set_option maxRecDepth 100000 in
theorem vWrote_any {w : World} {R : Nat} {vr : Value} {rs : List RK} {s : SP} (h : RS w R vr rs s) (k : ByteArray) (hk : k.size ≤ 1000000) (n : Int) : Calls Try.prog 18 #[.pointer (some ⟨R, 0, none⟩), .string k, .int .i64 n] w fun e w' => e = .returned (.bool (wroteS s k n)) ∧ Below w.heap.size w w' := by
  have HC := hide (vWithin_any h k (k ++ (⟨#[0]⟩ : ByteArray)) n)
  rw [wrote_within h.inv] at HC
  clear h
  go_enter Try.func18, Try.ntmps18
  go_wp2_with fail
  refine HC.out.mono ?_
  rintro e w1 ⟨rfl, hb⟩
  have L1 := hide hb
  clear hb
  go_wp2_with fail
  go_ret
  exact ⟨rfl, L1.out⟩
#print axioms vWithin_any
#print axioms vWrote_any
end Go.Proofs.Ytgaoionnfkbhaaa
