/-
  certify's alone and reach: what the calls do.
-/
import Derived.Test.YthniaoacanabdaaCtM
namespace Go.Proofs.Ythniaoacanabdaa
open Go.RowKit
theorem build_span (a b : ByteArray) : ∀ W : World, (Instr.build 51 #[(0, .string a), (1, .string b)]).run Try.prog W = .ok (.agg (SC (a, b)).toArray) W := fun W => by kernel_rfl
/-- A struct that a variable holds is what the call returns. -/
theorem ret_span {fn : Func} {p : Tmp} (h : fn.results = #[.cell p 51]) (tmps : Array Value) (w : World) (g : Nat) (x : Sp) (hp : tmps.getD p undef = .pointer (some ⟨g, 0, none⟩)) (hB : Blk w g 51 (SC x)) :
    (results fn tmps).run Try.prog w = .ok (.agg (SC x).toArray) w :=
  results_cell_row h _ _ g 51 _ (0, 0) _ hp hB Try.underlying51 rfl Try.size51
set_option maxRecDepth 100000 in
theorem alone_any (k : ByteArray) (hk : k.size < 9223372036854775807) (w : World) : Calls Try.prog 27 #[.string k] w fun e w' => e = .returned (.agg (SC (aloneP k)).toArray) ∧ Below w.heap.size w w' := by
  have hz := zeroS
  have hk2 : ¬ 9223372036854775807 < k.size + 1 := by omega
  obtain ⟨N, HN⟩ : ∃ N, Hid (w.heap.size = N) := ⟨_, rfl⟩
  clear hk
  go_enter Try.func27, Try.ntmps27
  go_upto_region 1 with fail
  obtain ⟨w1, hw1⟩ : ∃ y, y = w.alloc (.cells (SC zs).toArray 51 (0, 0)) := ⟨_, rfl⟩
  change Code.wp _ _ _ _ (w.alloc (.cells (SC zs).toArray 51 (0, 0)))
  rw [← hw1, HN.out]
  obtain ⟨b1, l1⟩ := newB HN hw1
  clear hw1
  go_wp2_with (first
    | (refine wpList_store_blk rfl 51 _ _ rfl N (SC zs) (SC (aloneP k)) 51 rfl rfl b1.out rfl Try.size51 (SC_one _) ?_; intro w5 hb5 hu5)
    | fail)
  refine bodyPost_ret (ret_span rfl _ _ N _ rfl hb5) rfl ⟨rfl, ?_⟩
  exact l1.out.trans (hu5.below (Nat.le_of_eq HN.out) l1.out.size)
set_option maxRecDepth 100000 in
set_option maxHeartbeats 1000000 in
theorem reach_any (x : Rz) (hk : x.k.size < 9223372036854775807) (w : World) : Calls Try.prog 29 #[.agg (XC x).toArray] w fun e w' => e = .returned (.agg (SC (reachP x)).toArray) ∧ Below w.heap.size w w' := by
  have hz := zeroS
  obtain ⟨N, HN⟩ : ∃ N, Hid (w.heap.size = N) := ⟨_, rfl⟩
  have HC := hide (fun W => alone_any x.k hk W)
  obtain ⟨w1, hw1⟩ : ∃ y, y = (w.alloc (.cells (XC x).toArray 27 (0, 0))).alloc (.cells (SC zs).toArray 51 (0, 0)) := ⟨_, rfl⟩
  obtain ⟨b1, b2, l1⟩ := newB2 HN hw1
  have c0 := b1.out.xsc
  have c1 := b1.out.xk
  have c2 := b1.out.xt
  have HS : Hid (reachP x = if x.sc = true then (x.k, x.t) else aloneP x.k) := (show _ = _ from rfl)
  have HW := hide hw1
  clear hk hw1
  obtain ⟨k, HK⟩ : ∃ k, Hid (x.k = k) := ⟨_, rfl⟩
  obtain ⟨t, HT⟩ : ∃ k, Hid (x.t = k) := ⟨_, rfl⟩
  obtain ⟨s, HSc⟩ : ∃ k, Hid (x.sc = k) := ⟨_, rfl⟩
  rw [HK.out] at HC HS c1
  rw [HT.out] at HS c2
  rw [HSc.out] at HS c0
  have hbd := build_span k t
  go_enter Try.func29, Try.ntmps29
  go_upto_region 1 with fail
  change Code.wp _ _ _ _ ((w.alloc (.cells (XC x).toArray 27 (0, 0))).alloc (.cells (SC zs).toArray 51 (0, 0)))
  rw [← HW.out]
  rw [HN.out]
  cases s with
  | true =>
    go_wp2_with (first
      | (refine wpList_store_blk rfl 51 _ _ rfl (N + 1) (SC zs) (SC (k, t)) 51 rfl rfl b2.out rfl Try.size51 (SC_one _) ?_; intro w5 hb5 hu5)
      | fail)
    rw [HS.out]
    refine bodyPost_ret (ret_span rfl _ _ (N + 1) _ rfl hb5) rfl ⟨rfl, ?_⟩
    exact l1.out.trans (hu5.below (by rw [HN.out]; omega) l1.out.size)
  | false =>
    obtain ⟨a, HA⟩ : ∃ a, Hid (aloneP k = a) := ⟨_, rfl⟩
    rw [HA.out] at HC HS
    go_wp2_with (first
      | (go_at_call 27; refine (HC.out _).mono ?_; rintro e w3 ⟨rfl, hb3⟩; have b3 := hide (b2.out.kept hb3); have l3 : Hid (Below w.heap.size w w3) := (show Below _ _ _ from l1.out.trans (hb3.mono l1.out.size)); clear hb3)
      | (refine wpList_store_blk rfl 51 _ _ rfl (N + 1) (SC zs) (SC a) 51 rfl rfl b3.out rfl Try.size51 (SC_one _) ?_; intro w5 hb5 hu5)
      | fail)
    rw [HS.out]
    refine bodyPost_ret (ret_span rfl _ _ (N + 1) _ rfl hb5) rfl ⟨rfl, ?_⟩
    exact l3.out.trans (hu5.below (by rw [HN.out]; omega) l3.out.size)
#print axioms reach_any
end Go.Proofs.Ythniaoacanabdaa
