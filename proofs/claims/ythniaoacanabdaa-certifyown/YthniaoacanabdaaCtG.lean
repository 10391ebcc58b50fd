/-
  The law's wrote and light: what the calls do.
-/
import Derived.Test.YthniaoacanabdaaCtL
import Derived.Test.YthniaoacanabdaaCtB
namespace Go.Proofs.Ythniaoacanabdaa
open Go.RowKit
/-- A record that wrote a key. -/
def wrR (k : ByteArray) (g : Nat) : Rc := ⟨0, 0, false, [], [(k, em, false)], none, 0, some ⟨g, 0, none⟩, 1⟩
theorem build_pair1 (k : ByteArray) : ∀ W : World, (Instr.build 43 #[(0, .string k)]).run Try.prog W = .ok (.agg (PC (k, em, false)).toArray) W := fun W => by kernel_rfl
theorem build_recw (g : Nat) (k : ByteArray) : ∀ W : World, (Instr.build 25 #[(4, .slice (some ⟨g, 0, none⟩) 1 1)]).run Try.prog W = .ok (.agg (RC (wrR k g)).toArray) W := fun W => by kernel_rfl
theorem ret_rec {fn : Func} {p : Tmp} (h : fn.results = #[.cell p 25]) (tmps : Array Value) (w : World) (g : Nat) (x : Rc) (hp : tmps.getD p undef = .pointer (some ⟨g, 0, none⟩)) (hB : Blk w g 25 (RC x)) :
    (results fn tmps).run Try.prog w = .ok (.agg (RC x).toArray) w :=
  results_cell_row h _ _ g 25 _ (0, 0) _ hp hB Try.underlying25 rfl Try.size25
/-- What wrote tells. -/
def WrPost (k : ByteArray) (e : Ending) (w : World) : Prop := ∃ g, e = .returned (.agg (RC (wrR k g)).toArray) ∧ ROk w (wrR k g)
set_option maxHeartbeats 1000000 in
set_option maxRecDepth 100000 in
theorem wroteL_any (k : ByteArray) (w : World) : Calls Try.prog 25 #[.string k] w fun e w' => WrPost k e w' ∧ Below w.heap.size w w' := by
  have hz := zeroR
  have hz2 := zeroP
  obtain ⟨N, HN⟩ : ∃ N, Hid (w.heap.size = N) := ⟨_, rfl⟩
  go_enter Try.func25, Try.ntmps25
  go_upto_region 1 with fail
  obtain ⟨w1, hw1⟩ : ∃ y, y = w.alloc (.cells (RC zr).toArray 25 (0, 0)) := ⟨_, rfl⟩
  change Code.wp _ _ _ _ (w.alloc (.cells (RC zr).toArray 25 (0, 0)))
  rw [← hw1, HN.out]
  obtain ⟨b1, l1⟩ := newB HN hw1
  obtain ⟨M, HM⟩ : ∃ M, Hid (w1.heap.size = M) := ⟨_, rfl⟩
  obtain ⟨w2, hw2⟩ : ∃ y, y = w1.alloc (.cells (PC (k, em, false)).toArray 43 (0, 0)) := ⟨_, rfl⟩
  obtain ⟨b2, l2⟩ := newB HM hw2
  have B1 := hide (b1.out.kept l2.out)
  have hNM : N < M := by rw [← HM.out]; exact b1.out.lt
  have HW2 := hide hw2
  have L2 : Hid (Below w.heap.size w w2) := (show Below _ _ _ from l1.out.trans (l2.out.mono l1.out.size))
  clear hw1 hw2
  go_wp2_with (first
    | (refine wpList_build1E (E := PE) (fun x W => build_row1 x W) rfl _ rfl (k, em, false) rfl ?_; show wpList _ _ _ _ _ (w1.alloc (.cells (PC (k, em, false)).toArray 43 (0, 0))); rw [← HW2.out, HM.out])
    | (refine wpList_store_blk rfl 25 _ _ rfl N (RC zr) (RC (wrR k M)) 25 rfl rfl B1.out rfl Try.size25 (RC_one _) ?_; intro w5 hb5 hu5)
    | fail)
  refine bodyPost_ret (ret_rec rfl _ _ N _ rfl hb5) rfl ⟨⟨M, rfl, ?_⟩, ?_⟩
  · have b25 : Blk w5 M 43 (PC (k, em, false)) := b2.out.but hu5 (by omega)
    refine ⟨RdX.nil _, ⟨some ⟨M, 0, none⟩, 1, rfl, by simp [wrR], by simp [maxLen], fun h => by simp at h, fun _ => ⟨M, 0, rfl, b25.lt, fun j u hj => ?_⟩⟩⟩
    have e : PE.cs (wrR k M).ws = PC (k, em, false) := by
      show PE.cs [(k, em, false)] = _
      rw [Enc.cs_one1]
      rfl
    rw [e] at hj
    rw [Nat.zero_add]
    exact b25.cell hj
  · exact L2.out.trans (hu5.below (Nat.le_of_eq HN.out) L2.out.size)
/-- What light tells. -/
def LgPost (L : List Rc) (e : Ending) : Prop := e = .returned (.bool false) ∨ (e = .returned (.bool true) ∧ L.length ≤ 40 ∧ ∀ r ∈ L, LtR r)
set_option maxHeartbeats 2000000 in
set_option maxRecDepth 100000 in
theorem lightL_any {w : World} {vl : Value} {L : List Rc} (h : RdR9 w vl L) (hb : ∀ r ∈ L, RB 140737488351232 r) : Calls Try.prog 9 #[vl] w fun e w' => LgPost L e ∧ Below w.heap.size w w' := by
  have HR := hide h
  have HB := hide hb
  obtain ⟨a, c, rfl⟩ := h.rd.slice
  obtain ⟨n, HN⟩ : ∃ n, Hid (L.length = n) := ⟨_, rfl⟩
  rw [HN.out] at HR ⊢
  have hn0 := Nat.le_trans HR.out.rd.cap HR.out.rd.max
  have HP : Hid (∀ e, e = .returned (.bool false) → LgPost L e) := (show _ from fun e h => .inl h)
  have HP2 : Hid (∀ e, e = .returned (.bool true) → L.length ≤ 40 → (∀ r ∈ L, LtR r) → LgPost L e) := (show _ from fun e h1 h2 h3 => .inr ⟨h1, h2, h3⟩)
  obtain ⟨Q, HQ⟩ : ∃ Q : Ending → Prop, Hid (LgPost L = Q) := ⟨_, rfl⟩
  rw [HQ.out] at HP HP2 ⊢
  have hzr := zeroR
  clear h hb
  go_enter Try.func9, Try.ntmps9
  by_cases h1 : 40 < n
  · have q1 : decide ((40 : Int) < (n : Int)) = true := by simp; omega
    go_wp2_with fail
    go_ret
    exact ⟨HP.out _ rfl, Below.refl _ _⟩
  · have q1 : decide ((40 : Int) < (n : Int)) = false := by simp; omega
    go_wp2_with fail
    have R0 : Hid (Below w.heap.size w w) := Below.refl _ _
    go_loopg [3, 11] (n + 1) (fun g x z wr => ∃ (i m : Nat), i ≤ n ∧ g + i = n + 1 ∧ x = .int .i64 (m : Int) ∧ z = .int .i64 (i : Int) ∧ m ≤ 600 ∧ Hid (∀ j (hj : j < L.length), j < i → LtR L[j]) ∧ Hid (Below w.heap.size w wr))
    case atStart => exact ⟨0, 600, Nat.zero_le _, by omega, rfl, rfl, by omega, (show ∀ j (hj : j < L.length), _ from fun j hj h => by omega), R0⟩
    case round =>
      clear R0
      obtain ⟨i, m, hi, hg, rfl, rfl, hm, HT, LR⟩ := hrel
      by_cases hlt : i < n
      · have hlt2 : i < L.length := by rw [HN.out]; exact hlt
        have hlt' : (i : Int) < (n : Int) := by omega
        have RBw := HR.out.kept LR.out
        obtain ⟨bb, off, rfl, hb1, hx⟩ := RBw.rd.nth (by omega)
        have hrow : wr.rangeAt bb (off + i * 5) (RC L[i]) := hx i hlt2
        have hok := RBw.rs _ (List.getElem_mem hlt2)
        have hbb := HB.out _ (List.getElem_mem hlt2)
        obtain ⟨o, HO⟩ : ∃ o, Hid (L[i] = o) := ⟨L[i], (show L[i] = L[i] from rfl)⟩
        rw [HO.out] at hrow hok hbb
        obtain ⟨E, HE⟩ : ∃ E, Hid (wr.heap.size = E) := ⟨_, rfl⟩
        obtain ⟨w2, hw2⟩ : ∃ y, y = wr.alloc (.cells (RC o).toArray 25 (0, 0)) := ⟨_, rfl⟩
        obtain ⟨b2, l2⟩ := newB HE hw2
        have CO := hide (light9_any (hok.kept l2.out) hbb m hm)
        have rk := b2.out.range0
        have L2 : Hid (Below w.heap.size w w2) := (show Below _ _ _ from LR.out.trans (l2.out.mono LR.out.size))
        have HW2 := hide hw2
        clear hx hw2 RBw hok hbb
        go_wp2_with (first
          | (refine wpList_load_mid rfl 25 _ rfl bb (off + i * 5) rfl (RC o) _ hrow Try.underlying25 rfl Try.size25 ?_)
          | (refine wpList_store_new rfl 25 _ _ rfl wr _ (RC o).toArray _ rfl rfl rfl Try.size25 rfl (all_one (RC_one o)) ?_; rw [← HW2.out, HE.out])
          | (refine wpList_load_mid rfl 25 _ rfl E 0 rfl (RC o) _ rk Try.underlying25 rfl Try.size25 ?_)
          | fail)
        refine CO.out.mono ?_
        rintro e w4 ⟨hp, hb4⟩
        have L4 : Hid (Below w.heap.size w w4) := (show Below _ _ _ from L2.out.trans (hb4.mono L2.out.size))
        clear hb4 CO hrow rk
        rcases hp with ⟨m', rfl, hm', hlt9⟩ | ⟨z, rfl, hz⟩
        · have q2 : decide ((m' : Int) < 0) = false := by simp
          have HT2 : Hid (∀ j (hj : j < L.length), j < i + 1 → LtR L[j]) := (show ∀ j (hj : j < L.length), _ from fun j hj hji => by
            by_cases e : j = i
            · subst e
              rw [HO.out]
              exact hlt9
            · exact HT.out j hj (by omega))
          clear hlt9
          go_wp2_with fail
          go_roundg (n - i)
          case measure => omega
          case rel => exact ⟨i + 1, m', by omega, by omega, rfl, by go_num, hm', HT2, L4⟩
        · have q2 : decide (z < 0) = true := by simp; omega
          go_wp2_with fail
          go_ret
          exact ⟨HP.out _ rfl, L4.out⟩
      · obtain rfl : i = n := by omega
        have hlt' : ¬ (i : Int) < i := by omega
        have HA : Hid (∀ r ∈ L, LtR r) := (show _ from fun x hx => by
          obtain ⟨t, ht, e⟩ := List.getElem_of_mem hx
          rw [← e]
          exact HT.out t ht (by rw [← HN.out]; exact ht))
        go_wp2_with fail
        go_ret
        exact ⟨HP2.out _ rfl (by rw [HN.out]; omega) HA.out, LR.out⟩
#print axioms lightL_any
end Go.Proofs.Ythniaoacanabdaa
