/-
  certify's Wrote and Touches: what the calls do.
-/
import Derived.Test.YthniaoacanabdaaCtB
import Derived.Test.YthniaoacanabdaaCtT
namespace Go.Proofs.Ythniaoacanabdaa
open Go.RowKit
set_option maxHeartbeats 2000000 in
set_option maxRecDepth 100000 in
theorem wrote_any {w : World} {r : Rc} (hr : RdG PE w (wv r) r.ws) (k : ByteArray) (hk : k.size < 9223372036854775807) : Calls Try.prog 11 #[.agg (RC r).toArray, .string k] w fun e w' => e = .returned (.bool (wroteP r k)) ∧ Below w.heap.size w w' := by
  obtain ⟨N, HN⟩ : ∃ N, Hid (w.heap.size = N) := ⟨_, rfl⟩
  obtain ⟨w1, hw1⟩ : ∃ y, y = w.alloc (.cells (RC r).toArray 25 (0, 0)) := ⟨_, rfl⟩
  obtain ⟨B1, l1⟩ := newB HN hw1
  have HC := hide (fun W => alone_any k hk W)
  have RW := hide (hr.kept l1.out)
  obtain ⟨s, HS⟩ : ∃ s, Hid (aloneP k = s) := ⟨_, rfl⟩
  obtain ⟨q, HQ'⟩ : ∃ q, Hid (wroteP r k = q) := ⟨_, rfl⟩
  have HQ : Hid (hitP [s] r = q) := (show _ = _ by rw [← HS.out, hit_alone, HQ'.out])
  rw [HS.out] at HC
  rw [HQ'.out]
  have HNW : Hid (N ≤ w1.heap.size) := (show _ ≤ _ from Nat.le_of_lt B1.out.lt)
  have HW := hide hw1
  clear hr hk hw1
  go_enter Try.func11, Try.ntmps11
  go_upto_region 1 with fail
  change Code.wp _ _ _ _ (w.alloc (.cells (RC r).toArray 25 (0, 0)))
  rw [← HW.out, HN.out]
  refine wp_region_inv Try.mixed (KS (fun i_ => match i_ with | 0 => .val (.string k) | 1 => .val (.agg (SC s).toArray) | 2 => .of (fun W v_ => ∃ g_, v_ = .slice (some ⟨g_, 0, none⟩) 1 1 ∧ OwnG SE W N 51 v_ [s]) (fun _ _ _ hg ⟨g_, e, h⟩ => ⟨g_, e, h.kept hg⟩) | 3 => .of (fun W v_ => Tel W v_ [s]) (fun _ _ _ hg h => h.kept hg) | 4 => .val (.agg (RC r).toArray) | 5 | 6 => .val (.bool q) | _ => .free)) 11 rfl (by decide +kernel) (KS_mono _) ?_ ?_
  · refine AllFrom.cons (fun a' w' hg hk hd => ?_) (AllFrom.cons (fun a' w' hg hk hd => ?_) (AllFrom.cons (fun a' w' hg hk hd => ?_) (AllFrom.cons (fun a' w' hg hk hd => ?_) (AllFrom.cons (fun a' w' hg hk hd => ?_) (AllFrom.cons (fun a' w' hg hk hd => ?_) (AllFrom.cons (fun a' w' hg hk hd => ?_) AllFrom.nil))))))
    · skip
      intro Q
      have e1 : a'.eval (.tmp 1) = .string k := hk.at 1 (by decide +kernel)
      exact wp_value _ (by simp only [execOp, e1]; rfl) (KS_mkv rfl rfl)
    · skip
      intro Q
      have e5 : a'.eval (.tmp 5) = .string k := KS_val (hd.val 0 5 (by decide +kernel)) rfl
      refine wp_call 27 _ (run_enter 27 _ _ rfl (by kernel_rfl)) ?_
      simp only [List.map_toArray, List.map_nil, List.map_cons, e5]
      refine (HC.out _).mono ?_
      rintro e w5 ⟨rfl, hb5⟩
      exact ⟨_, rfl, KS_mkv rfl rfl, hb5⟩
    · skip
      intro Q
      have e6 : a'.eval (.tmp 6) = .agg (SC s).toArray := KS_val (hd.val 1 6 (by decide +kernel)) rfl
      exact wp_grow _ _ (by simp only [execOp, List.map_toArray, List.map_cons, List.map_nil, e6, Sem.run_bind, Sem.run_pure]; exact congrArg (fun r => Result.andThen r _) (build_span1 s _)) ((Below.refl _ _).alloc (Nat.le_refl _) _) (KS_mko rfl ⟨_, rfl, ownE_one (E := SE) w' N 51 s (Nat.le_trans HNW.out hg.size)⟩)
    · skip
      intro Q
      have r7 := KS_of (hd.val 2 7 (by decide +kernel)) rfl
      refine wp_call 26 _ (run_enter 26 _ _ rfl (by kernel_rfl)) ?_
      simp only [List.map_toArray, List.map_nil, List.map_cons]
      obtain ⟨g_, e7, o7⟩ := r7
      rw [e7] at o7 ⊢
      refine (inOrder1_any o7).mono ?_
      rintro e w5 ⟨rfl, t5, b5⟩
      exact ⟨_, rfl, KS_mko rfl t5, b5⟩
    · skip
      intro Q
      have e2 : a'.eval (.tmp 2) = .pointer (some ⟨N, 0, none⟩) := hk.at 2 (by decide +kernel)
      exact wp_load_row 25 _ rfl _ _ e2 (RC r) _ ((B1.out.kept hg).range0) Try.underlying25 rfl (Try.size25) (KS_mkv rfl rfl)
    · skip
      intro Q
      have r8 := KS_of (hd.val 3 8 (by decide +kernel)) rfl
      have e9 : a'.eval (.tmp 9) = .agg (RC r).toArray := KS_val (hd.val 4 9 (by decide +kernel)) rfl
      refine wp_call 28 _ (run_enter 28 _ _ rfl (by kernel_rfl)) ?_
      simp only [List.map_toArray, List.map_nil, List.map_cons, e9]
      refine (touchedBy_any r8 r (RW.out.kept hg)).mono ?_
      rintro e w5 ⟨rfl, hb5⟩
      exact ⟨_, rfl, KS_mkv rfl (by rw [HQ.out]), hb5⟩
    · skip
      intro Q
      have e10 : a'.eval (.tmp 10) = .bool q := KS_val (hd.val 5 10 (by decide +kernel)) rfl
      exact wp_value _ (by simp only [execOp, e10]; rfl) (KS_mkv rfl rfl)
  · intro a' w' hsz hdf hk hall hg
    have L9 : Hid (Below w.heap.size w w') := (show _ from l1.out.trans (hg.mono l1.out.size))
    have e5 : a'.eval (.tmp 5) = .string k := KS_val (hall 0 _ 5 rfl rfl) rfl
    have e6 : a'.eval (.tmp 6) = .agg (SC s).toArray := KS_val (hall 1 _ 6 rfl rfl) rfl
    have r7 : (fun W v_ => ∃ g_, v_ = .slice (some ⟨g_, 0, none⟩) 1 1 ∧ OwnG SE W N 51 v_ [s]) w' (a'.eval (.tmp 7)) := KS_of (hall 2 _ 7 rfl rfl) rfl
    obtain ⟨x7, hx7⟩ : ∃ v, a'.eval (.tmp 7) = v := ⟨_, rfl⟩
    rw [hx7] at r7
    have r8 : (fun W v_ => Tel W v_ [s]) w' (a'.eval (.tmp 8)) := KS_of (hall 3 _ 8 rfl rfl) rfl
    obtain ⟨x8, hx8⟩ : ∃ v, a'.eval (.tmp 8) = v := ⟨_, rfl⟩
    rw [hx8] at r8
    have e9 : a'.eval (.tmp 9) = .agg (RC r).toArray := KS_val (hall 4 _ 9 rfl rfl) rfl
    have e10 : a'.eval (.tmp 10) = .bool q := KS_val (hall 5 _ 10 rfl rfl) rfl
    have e4 : a'.eval (.tmp 4) = .bool q := KS_val (hall 6 _ 4 rfl rfl) rfl
    have ha := act_puts 11 rfl hsz hdf hk [5, 6, 7, 8, 9, 10, 4] (by decide +kernel)
    simp only [puts, List.foldl_cons, List.foldl_nil, e5, e6, hx7, hx8, e9, e10, e4] at ha
    simp only [Act.put, List.setIfInBounds_toArray, List.set_cons_succ, List.set_cons_zero] at ha
    clear hall hk hsz hdf e5 e6 hx7 hx8 e9 e10 e4
    subst ha
    go_wp2_with fail
    go_ret
    exact ⟨rfl, L9.out⟩
#print axioms wrote_any
set_option maxHeartbeats 2000000 in
set_option maxRecDepth 100000 in
theorem touches_any {w : World} {r : Rc} (hr : RdG PE w (wv r) r.ws) (x : Rz) (hk : x.k.size < 9223372036854775807) : Calls Try.prog 13 #[.agg (RC r).toArray, .agg (XC x).toArray] w fun e w' => e = .returned (.bool (touchP r x)) ∧ Below w.heap.size w w' := by
  obtain ⟨N, HN⟩ : ∃ N, Hid (w.heap.size = N) := ⟨_, rfl⟩
  obtain ⟨w1, hw1⟩ : ∃ y, y = (w.alloc (.cells (RC r).toArray 25 (0, 0))).alloc (.cells (XC x).toArray 27 (0, 0)) := ⟨_, rfl⟩
  obtain ⟨B1, B2, l1⟩ := newB2 HN hw1
  have HC := hide (fun W => reach_any x hk W)
  have RW := hide (hr.kept l1.out)
  obtain ⟨s, HS⟩ : ∃ s, Hid (reachP x = s) := ⟨_, rfl⟩
  obtain ⟨q, HQ'⟩ : ∃ q, Hid (touchP r x = q) := ⟨_, rfl⟩
  have HQ : Hid (hitP [s] r = q) := (show _ = _ by rw [← HS.out, hit_reach, HQ'.out])
  rw [HS.out] at HC
  rw [HQ'.out]
  have HNW : Hid (N ≤ w1.heap.size) := (show _ ≤ _ from Nat.le_of_lt B1.out.lt)
  have HW := hide hw1
  clear hr hk hw1
  go_enter Try.func13, Try.ntmps13
  go_upto_region 1 with fail
  change Code.wp _ _ _ _ ((w.alloc (.cells (RC r).toArray 25 (0, 0))).alloc (.cells (XC x).toArray 27 (0, 0)))
  rw [← HW.out, HN.out]
  refine wp_region_inv Try.mixed (KS (fun i_ => match i_ with | 0 => .val (.agg (XC x).toArray) | 1 => .val (.agg (SC s).toArray) | 2 => .of (fun W v_ => ∃ g_, v_ = .slice (some ⟨g_, 0, none⟩) 1 1 ∧ OwnG SE W N 51 v_ [s]) (fun _ _ _ hg ⟨g_, e, h⟩ => ⟨g_, e, h.kept hg⟩) | 3 => .of (fun W v_ => Tel W v_ [s]) (fun _ _ _ hg h => h.kept hg) | 4 => .val (.agg (RC r).toArray) | 5 | 6 => .val (.bool q) | _ => .free)) 11 rfl (by decide +kernel) (KS_mono _) ?_ ?_
  · refine AllFrom.cons (fun a' w' hg hk hd => ?_) (AllFrom.cons (fun a' w' hg hk hd => ?_) (AllFrom.cons (fun a' w' hg hk hd => ?_) (AllFrom.cons (fun a' w' hg hk hd => ?_) (AllFrom.cons (fun a' w' hg hk hd => ?_) (AllFrom.cons (fun a' w' hg hk hd => ?_) (AllFrom.cons (fun a' w' hg hk hd => ?_) AllFrom.nil))))))
    · skip
      intro Q
      have e3 : a'.eval (.tmp 3) = .pointer (some ⟨N + 1, 0, none⟩) := hk.at 3 (by decide +kernel)
      exact wp_load_row 27 _ rfl _ _ e3 (XC x) _ ((B2.out.kept hg).range0) Try.underlying27 rfl (Try.size27) (KS_mkv rfl rfl)
    · skip
      intro Q
      have e5 : a'.eval (.tmp 5) = .agg (XC x).toArray := KS_val (hd.val 0 5 (by decide +kernel)) rfl
      refine wp_call 29 _ (run_enter 29 _ _ rfl (by kernel_rfl)) ?_
      simp only [List.map_toArray, List.map_nil, List.map_cons, e5]
      refine (HC.out _).mono ?_
      rintro e w5 ⟨rfl, hb5⟩
      exact ⟨_, rfl, KS_mkv rfl rfl, hb5⟩
    · skip
      intro Q
      have e6 : a'.eval (.tmp 6) = .agg (SC s).toArray := KS_val (hd.val 1 6 (by decide +kernel)) rfl
      exact wp_grow _ _ (by simp only [execOp, List.map_toArray, List.map_cons, List.map_nil, e6, Sem.run_bind, Sem.run_pure]; exact congrArg (fun r => Result.andThen r _) (build_span1 s _)) ((Below.refl _ _).alloc (Nat.le_refl _) _) (KS_mko rfl ⟨_, rfl, ownE_one (E := SE) w' N 51 s (Nat.le_trans HNW.out hg.size)⟩)
    · skip
      intro Q
      have r7 := KS_of (hd.val 2 7 (by decide +kernel)) rfl
      refine wp_call 26 _ (run_enter 26 _ _ rfl (by kernel_rfl)) ?_
      simp only [List.map_toArray, List.map_nil, List.map_cons]
      obtain ⟨g_, e7, o7⟩ := r7
      rw [e7] at o7 ⊢
      refine (inOrder1_any o7).mono ?_
      rintro e w5 ⟨rfl, t5, b5⟩
      exact ⟨_, rfl, KS_mko rfl t5, b5⟩
    · skip
      intro Q
      have e2 : a'.eval (.tmp 2) = .pointer (some ⟨N, 0, none⟩) := hk.at 2 (by decide +kernel)
      exact wp_load_row 25 _ rfl _ _ e2 (RC r) _ ((B1.out.kept hg).range0) Try.underlying25 rfl (Try.size25) (KS_mkv rfl rfl)
    · skip
      intro Q
      have r8 := KS_of (hd.val 3 8 (by decide +kernel)) rfl
      have e9 : a'.eval (.tmp 9) = .agg (RC r).toArray := KS_val (hd.val 4 9 (by decide +kernel)) rfl
      refine wp_call 28 _ (run_enter 28 _ _ rfl (by kernel_rfl)) ?_
      simp only [List.map_toArray, List.map_nil, List.map_cons, e9]
      refine (touchedBy_any r8 r (RW.out.kept hg)).mono ?_
      rintro e w5 ⟨rfl, hb5⟩
      exact ⟨_, rfl, KS_mkv rfl (by rw [HQ.out]), hb5⟩
    · skip
      intro Q
      have e10 : a'.eval (.tmp 10) = .bool q := KS_val (hd.val 5 10 (by decide +kernel)) rfl
      exact wp_value _ (by simp only [execOp, e10]; rfl) (KS_mkv rfl rfl)
  · intro a' w' hsz hdf hk hall hg
    have L9 : Hid (Below w.heap.size w w') := (show _ from l1.out.trans (hg.mono l1.out.size))
    have e5 : a'.eval (.tmp 5) = .agg (XC x).toArray := KS_val (hall 0 _ 5 rfl rfl) rfl
    have e6 : a'.eval (.tmp 6) = .agg (SC s).toArray := KS_val (hall 1 _ 6 rfl rfl) rfl
    have r7 : (fun W v_ => ∃ g_, v_ = .slice (some ⟨g_, 0, none⟩) 1 1 ∧ OwnG SE W N 51 v_ [s]) w' (a'.eval (.tmp 7)) := KS_of (hall 2 _ 7 rfl rfl) rfl
    obtain ⟨x7, hx7⟩ : ∃ v, a'.eval (.tmp 7) = v := ⟨_, rfl⟩
    rw [hx7] at r7
    have r8 : (fun W v_ => Tel W v_ [s]) w' (a'.eval (.tmp 8)) := KS_of (hall 3 _ 8 rfl rfl) rfl
    obtain ⟨x8, hx8⟩ : ∃ v, a'.eval (.tmp 8) = v := ⟨_, rfl⟩
    rw [hx8] at r8
    have e9 : a'.eval (.tmp 9) = .agg (RC r).toArray := KS_val (hall 4 _ 9 rfl rfl) rfl
    have e10 : a'.eval (.tmp 10) = .bool q := KS_val (hall 5 _ 10 rfl rfl) rfl
    have e4 : a'.eval (.tmp 4) = .bool q := KS_val (hall 6 _ 4 rfl rfl) rfl
    have ha := act_puts 11 rfl hsz hdf hk [5, 6, 7, 8, 9, 10, 4] (by decide +kernel)
    simp only [puts, List.foldl_cons, List.foldl_nil, e5, e6, hx7, hx8, e9, e10, e4] at ha
    simp only [Act.put, List.setIfInBounds_toArray, List.set_cons_succ, List.set_cons_zero] at ha
    clear hall hk hsz hdf e5 e6 hx7 hx8 e9 e10 e4
    subst ha
    go_wp2_with fail
    go_ret
    exact ⟨rfl, L9.out⟩
#print axioms touches_any
end Go.Proofs.Ythniaoacanabdaa
