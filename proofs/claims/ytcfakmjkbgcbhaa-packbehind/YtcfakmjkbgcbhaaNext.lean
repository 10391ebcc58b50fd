/-
  The closure of pack.GetList: what one call of it does.
-/
import Derived.Test.YtcfakmjkbgcbhaaList
import Derived.Deep.RegionWith
import Derived.Deep.DrawnRows
namespace Go.Proofs.Ytcfakmjkbgcbhaa
open Go.RowKit
attribute [local go_sem ↓] Go.wp_at_zero Go.wp_at_succ

theorem getStr_k (v : Value) (l : List UInt8) (m : Int) (w : World) (X : List UInt8) (Y : Nat) (Z : Bool) (HG : Hid (gs l m.toNat = (X, Y, Z))) (h : Rd w v l) (hl : l.length ≤ 140737488300000) (hm : (Lit.int .i64 m).wf = true) :
    Calls Try.prog 14 #[v, .int .i64 m] w fun e w' => e = .returned (.tuple #[.string ⟨X.toArray⟩, .int .i64 (Y : Int), .bool Z]) ∧ Below w.heap.size w w' := by
  have := getStr_any v l m w h hl hm
  rw [HG.out] at this
  exact this

set_option maxRecDepth 100000 in
set_option maxHeartbeats 1000000 in
theorem next_in (Bb Ba Bm b off cap x : Nat) (l : List UInt8) (m : Int) (w : World) (X : List UInt8) (Y : Nat) (Z : Bool) (HG : Hid (gs (l.drop x) m.toNat = (X, Y, Z))) (hb : w.cell? ⟨Bb, 0, none⟩ = some (.slice (some ⟨b, off, none⟩) l.length cap)) (ha : w.cell? ⟨Ba, 0, none⟩ = some (.int .i64 (x : Int)))
    (hm : w.cell? ⟨Bm, 0, none⟩ = some (.int .i64 m)) (hf : w.frozen? ⟨Ba, 0, none⟩ = false) (hBa : Ba < w.heap.size) (hr : Rd w (.slice (some ⟨b, off, none⟩) l.length cap) l) (hx : x ≤ l.length)
    (hl : l.length ≤ 140737488300000) (hmw : (Lit.int .i64 m).wf = true) (hcx : ¬ cap = x) :
    Calls Try.prog 34 #[.pointer (some ⟨Bb, 0, none⟩), .pointer (some ⟨Ba, 0, none⟩), .pointer (some ⟨Bm, 0, none⟩)] w fun e w' =>
      ∃ w1, Below w.heap.size w w1 ∧ w' = w1.setCell ⟨Ba, 0, none⟩ (.int .i64 ((x : Int) + Y)) ∧ e = .returned (.tuple #[.string ⟨X.toArray⟩, .bool Z]) := by
  have hx' : (x : Int) ≤ l.length := by omega
  have hgl : (Y : Int) ≤ l.length := by
    rcases gs_cases (l.drop x) m.toNat with hg | ⟨t, k, hg, hk, -⟩
    · rw [HG.out] at hg; simp at hg; omega
    · rw [HG.out] at hg; simp at hg hk; omega
  have hrd : Hid (∀ n, Rd (w.drewN n) (.slice (some ⟨b, off + x, none⟩) (l.length - x) (cap - x)) (l.drop x)) := (show ∀ n, _ from fun n => (hr.drop x hx (off + x) (.inl rfl)).kept (below_drewN _ _ _))
  go_enter Try.func34, Try.ntmps34
  go_wp2_with fail
  go_region_with (go_at_call 14; refine (getStr_k _ (l.drop x) m _ X Y Z HG (by exact hrd.out 1) (by simp; omega) hmw).mono ?_; rintro e w1 ⟨rfl, hb1⟩)
  all_goals
    have hbw : Below w.heap.size w w1 := (below_drewN w w.heap.size 1).trans hb1
    have ha1 : w1.cell? ⟨Ba, 0, none⟩ = some (.int .i64 (x : Int)) := (hbw.cell (p := ⟨Ba, 0, none⟩) hBa).trans ha
    have hf1 : w1.frozen? ⟨Ba, 0, none⟩ = false := (hbw.frozen (p := ⟨Ba, 0, none⟩) hBa).trans hf
    clear hb1 hr hrd hb ha hm hf
    go_wp2
    go_ret2
    exact ⟨w1, hbw, rfl, rfl⟩

set_option maxRecDepth 100000 in
set_option maxHeartbeats 1000000 in
theorem next_end (Bb Ba Bm b off cap x : Nat) (l : List UInt8) (m : Int) (w : World) (X : List UInt8) (Y : Nat) (Z : Bool) (HG : Hid (gs (l.drop x) m.toNat = (X, Y, Z))) (hb : w.cell? ⟨Bb, 0, none⟩ = some (.slice (some ⟨b, off, none⟩) l.length cap)) (ha : w.cell? ⟨Ba, 0, none⟩ = some (.int .i64 (x : Int)))
    (hm : w.cell? ⟨Bm, 0, none⟩ = some (.int .i64 m)) (hf : w.frozen? ⟨Ba, 0, none⟩ = false) (hBa : Ba < w.heap.size) (hr : Rd w (.slice (some ⟨b, off, none⟩) l.length cap) l) (hx : x ≤ l.length) (hcl : l.length ≤ cap)
    (hl : l.length ≤ 140737488300000) (hmw : (Lit.int .i64 m).wf = true) (hcx : cap = x) :
    Calls Try.prog 34 #[.pointer (some ⟨Bb, 0, none⟩), .pointer (some ⟨Ba, 0, none⟩), .pointer (some ⟨Bm, 0, none⟩)] w fun e w' =>
      ∃ w1, Below w.heap.size w w1 ∧ w' = w1.setCell ⟨Ba, 0, none⟩ (.int .i64 ((x : Int) + Y)) ∧ e = .returned (.tuple #[.string ⟨X.toArray⟩, .bool Z]) := by
  have hx' : (x : Int) ≤ l.length := by omega
  have hgl : (Y : Int) ≤ l.length := by
    rcases gs_cases (l.drop x) m.toNat with hg | ⟨t, k, hg, hk, -⟩
    · rw [HG.out] at hg; simp at hg; omega
    · rw [HG.out] at hg; simp at hg hk; omega
  have hrd : Hid (∀ n, Rd (w.drewN n) (.slice (some ⟨b, off, none⟩) (l.length - x) 0) (l.drop x)) := (show ∀ n, _ from fun n => by
    have := hr.drop x hx off (.inr (by omega))
    rw [show cap - x = 0 from by omega] at this
    exact this.kept (below_drewN _ _ _))
  go_enter Try.func34, Try.ntmps34
  go_wp2_with fail
  go_region_with (go_at_call 14; refine (getStr_k _ (l.drop x) m _ X Y Z HG (by exact hrd.out 1) (by simp; omega) hmw).mono ?_; rintro e w1 ⟨rfl, hb1⟩)
  all_goals
    have hbw : Below w.heap.size w w1 := (below_drewN w w.heap.size 1).trans hb1
    have ha1 : w1.cell? ⟨Ba, 0, none⟩ = some (.int .i64 (x : Int)) := (hbw.cell (p := ⟨Ba, 0, none⟩) hBa).trans ha
    have hf1 : w1.frozen? ⟨Ba, 0, none⟩ = false := (hbw.frozen (p := ⟨Ba, 0, none⟩) hBa).trans hf
    clear hb1 hr hrd hb ha hm hf
    go_wp2
    go_ret2
    exact ⟨w1, hbw, rfl, rfl⟩

theorem next_any (Bb Ba Bm b off cap x : Nat) (l : List UInt8) (m : Int) (w : World) (X : List UInt8) (Y : Nat) (Z : Bool) (HG : Hid (gs (l.drop x) m.toNat = (X, Y, Z))) (hb : w.cell? ⟨Bb, 0, none⟩ = some (.slice (some ⟨b, off, none⟩) l.length cap)) (ha : w.cell? ⟨Ba, 0, none⟩ = some (.int .i64 (x : Int)))
    (hm : w.cell? ⟨Bm, 0, none⟩ = some (.int .i64 m)) (hf : w.frozen? ⟨Ba, 0, none⟩ = false) (hBa : Ba < w.heap.size) (hr : Rd w (.slice (some ⟨b, off, none⟩) l.length cap) l) (hx : x ≤ l.length) (hcl : l.length ≤ cap)
    (hl : l.length ≤ 140737488300000) (hmw : (Lit.int .i64 m).wf = true) :
    Calls Try.prog 34 #[.pointer (some ⟨Bb, 0, none⟩), .pointer (some ⟨Ba, 0, none⟩), .pointer (some ⟨Bm, 0, none⟩)] w fun e w' =>
      ∃ w1, Below w.heap.size w w1 ∧ w' = w1.setCell ⟨Ba, 0, none⟩ (.int .i64 ((x : Int) + Y)) ∧ e = .returned (.tuple #[.string ⟨X.toArray⟩, .bool Z]) := by
  by_cases hcx : cap = x
  · exact next_end Bb Ba Bm b off cap x l m w X Y Z HG hb ha hm hf hBa hr hx hcl hl hmw hcx
  · exact next_in Bb Ba Bm b off cap x l m w X Y Z HG hb ha hm hf hBa hr hx hl hmw hcx
#print axioms next_any
end Go.Proofs.Ytcfakmjkbgcbhaa
