/-
  The law's lives: what the call does.
-/
import Derived.Test.YthniaoacanabdaaCtG
import Derived.Test.YthniaoacanabdaaCtE
import Derived.Test.YthniaoacanabdaaCtD
namespace Go.Proofs.Ythniaoacanabdaa
open Go.RowKit
def tA : ByteArray := ⟨#[97]⟩
/-- The read of the document's example, and its record, strict or not. -/
def liX : Rz := ⟨false, tA, em, [], none, 0⟩
def liR (b : Bool) (g : Nat) : Rc := ⟨0, 0, b, [liX], [], some ⟨g, 0, none⟩, 1, none, 0⟩
theorem hit_wr (l : List Sp) (k : ByteArray) (g : Nat) : hitP l (wrR k g) = l.any fun s => inS s k := by simp [hitP, wrR]
theorem lives_c (g g' : Nat) : clashP (wrR tA g) [wrR tA g'] = 0 := by
  have h : hitP (spW (wrR tA g)) (wrR tA g') = true := by
    rw [hit_wr]
    simp [spW, wrR, inS_alone]
  simp [clashP, fstI, h]
theorem lives_m (b : Bool) (g g' : Nat) : mayP (liR b g) [wrR tA g'] = b := by
  have h1 : hitP (spW (liR b g)) (wrR tA g') = false := by
    rw [hit_wr]
    simp [spW, liR]
  have h2 : hitP (spR (liR b g)) (wrR tA g') = true := by
    rw [hit_wr]
    have e : spR (liR b g) = [aloneP tA] := rfl
    rw [e]
    simp [inS_alone]
  rw [may_any]
  simp [h1, h2]
  rfl
theorem rdR_one {w : World} {r : Rc} (h : ROk w r) : RdR9 (w.alloc (.cells (RE.c r).toArray 25 (0, 0))) (.slice (some ⟨w.heap.size, 0, none⟩) 1 1) [r] :=
  ⟨rdG_one (E := RE) w 25 r, fun x hx => by
    rw [List.mem_singleton] at hx
    subst hx
    exact h.kept ((Below.refl _ _).alloc (Nat.le_refl _) _)⟩
theorem wr_kok (g : Nat) : KOk (wrR tA g) := ⟨by simp [wrR], by simp [wrR], fun p hp => by
  have : p = (tA, em, false) := by simpa [wrR] using hp
  subst this
  show tA.size < _
  decide, fun x hx => by cases hx⟩
theorem li_kok (b : Bool) (g : Nat) : KOk (liR b g) := ⟨by simp [liR], by simp [liR], fun p hp => (by cases hp), fun x hx => by
  have : x = liX := by simpa [liR] using hx
  subst this
  show tA.size < _
  decide⟩
theorem li_rok {w : World} {g : Nat} (b : Bool) (h : Blk w g 27 (XC liX)) : ROk w (liR b g) := by
  refine ⟨⟨⟨some ⟨g, 0, none⟩, 1, rfl, by simp [liR], by simp [maxLen], fun h => by simp at h, fun _ => ⟨g, 0, rfl, h.lt, fun j u hj => ?_⟩⟩, fun x hx => ?_⟩, RdG_nil w⟩
  · have e : XE.cs (liR b g).rs = XC liX := by
      show XE.cs [liX] = _
      rw [Enc.cs_one1]
      rfl
    rw [e] at hj
    rw [Nat.zero_add]
    exact h.cell hj
  · have : x = liX := by simpa [liR] using hx
    subst this
    exact RdG_nil w
set_option maxHeartbeats 4000000 in
set_option maxRecDepth 100000 in
theorem lives_any (w : World) : Calls Try.prog 10 #[] w fun e w' => e = .returned (.bool true) ∧ Below w.heap.size w w' := by
  have hz := zeroR
  have hzx := zeroX
  obtain ⟨N, HN⟩ : ∃ N, Hid (w.heap.size = N) := ⟨_, rfl⟩
  obtain ⟨w1, hw1⟩ : ∃ y, y = w.alloc (.cells (XC liX).toArray 27 (0, 0)) := ⟨_, rfl⟩
  obtain ⟨b1, l1⟩ := newB HN hw1
  have HW1 := hide hw1
  obtain ⟨N1, HN1⟩ : ∃ N, Hid (w1.heap.size = N) := ⟨_, rfl⟩
  obtain ⟨w2, hw2⟩ : ∃ y, y = w1.alloc (.cells (RC (liR true N)).toArray 25 (0, 0)) := ⟨_, rfl⟩
  obtain ⟨b2, l2⟩ := newB HN1 hw2
  have HW2 := hide hw2
  obtain ⟨N2, HN2⟩ : ∃ N, Hid (w2.heap.size = N) := ⟨_, rfl⟩
  obtain ⟨w3, hw3⟩ : ∃ y, y = w2.alloc (.cells (RC (liR true N)).toArray 25 (0, 0)) := ⟨_, rfl⟩
  obtain ⟨b3, l3⟩ := newB HN2 hw3
  have HW3 := hide hw3
  obtain ⟨w4, hw4⟩ : ∃ y, y = w3.setCell ⟨N2, 2, none⟩ (.bool false) := ⟨_, rfl⟩
  have B4 : Hid (Blk w4 N2 25 (RC (liR false N))) := (show Blk _ _ _ _ by rw [hw4]; exact b3.out.set 2 (.bool false))
  have u4 : But N2 w3 w4 := by rw [hw4]; exact But.setCell N2 w3 2 _
  have hN12 : N1 < N2 := by rw [← HN2.out]; exact b2.out.lt
  have hN02 : N < N2 := by rw [← HN2.out]; exact Nat.lt_of_lt_of_le b1.out.lt l2.out.size
  have BT : Hid (Blk w4 N1 25 (RC (liR true N))) := (show Blk _ _ _ _ from (b2.out.kept l3.out).but u4 (by omega))
  have BX : Blk w4 N 27 (XC liX) := ((b1.out.kept l2.out).kept l3.out).but u4 (by omega)
  have RT := hide (li_rok (w := w4) true BX)
  have RF := hide (li_rok (w := w4) false BX)
  have L4 : Hid (Below w.heap.size w w4) := (show Below _ _ _ from ((l1.out.trans (l2.out.mono l1.out.size)).trans (l3.out.mono (by have := l1.out.size; have := l2.out.size; omega))).trans (u4.below (by have := HN.out; omega) (by have := l1.out.size; have := l2.out.size; have := l3.out.size; omega)))
  have c3 := b3.out.rst
  have f3 := b3.out.frozen 2
  have HW4 := hide hw4
  clear hw1 hw2 hw3 hw4 u4 BX
  go_enter Try.func10, Try.ntmps10
  go_upto_region 2 with (first
    | (refine wpList_build1E (E := XE) build_read1 rfl _ rfl liX rfl ?_; show wpList _ _ _ _ _ (w.alloc (.cells (XC liX).toArray 27 (0, 0))); rw [← HW1.out, HN.out])
    | (refine wpList_store_new rfl 25 _ _ rfl w1 _ (RC (liR true N)).toArray _ rfl rfl rfl Try.size25 rfl (all_one (RC_one _)) ?_; rw [← HW2.out, HN1.out])
    | fail)
  try simp only [Act.put]
  go_upto_region 3 with (first
    | (refine wpList_load_mid rfl 25 _ rfl N1 0 rfl (RC (liR true N)) _ b2.out.range0 Try.underlying25 rfl Try.size25 ?_)
    | (refine wpList_store_new rfl 25 _ _ rfl w2 _ (RC (liR true N)).toArray _ rfl rfl rfl Try.size25 rfl (all_one (RC_one _)) ?_; rw [← HW3.out, HN2.out])
    | fail)
  try simp only [Act.put]
  go_upto_region 4 with fail
  try simp only [Act.put]
  rw [← HW4.out]
  clear c3 f3 b1 b2 b3
  refine wp_region_inv Try.mixed (KS (fun i_ => match i_ with | 0 | 1 | 7 | 14 => .of (fun W v_ => ∃ g_, v_ = .agg (RC (wrR tA g_)).toArray ∧ ROk W (wrR tA g_)) (fun _ _ _ hg ⟨g_, e, h⟩ => ⟨g_, e, h.kept hg⟩) | 2 | 8 | 15 => .of (fun W v_ => ∃ g_, RdR9 W v_ [wrR tA g_]) (fun _ _ _ hg ⟨g_, h⟩ => ⟨g_, h.kept hg⟩) | 3 | 16 => .val (.int .i64 0) | 4 | 5 | 10 | 11 | 12 | 17 | 18 | 19 => .val (.bool true) | 6 => .val (.agg (RC (liR true N)).toArray) | 9 => .val (.int .i64 10) | 13 => .val (.agg (RC (liR false N)).toArray) | _ => .free)) 27 rfl (by decide +kernel) (KS_mono _) ?_ ?_
  · refine AllFrom.cons (fun a' w' hg hk hd => ?_) (AllFrom.cons (fun a' w' hg hk hd => ?_) (AllFrom.cons (fun a' w' hg hk hd => ?_) (AllFrom.cons (fun a' w' hg hk hd => ?_) (AllFrom.cons (fun a' w' hg hk hd => ?_) (AllFrom.cons (fun a' w' hg hk hd => ?_) (AllFrom.cons (fun a' w' hg hk hd => ?_) (AllFrom.cons (fun a' w' hg hk hd => ?_) (AllFrom.cons (fun a' w' hg hk hd => ?_) (AllFrom.cons (fun a' w' hg hk hd => ?_) (AllFrom.cons (fun a' w' hg hk hd => ?_) (AllFrom.cons (fun a' w' hg hk hd => ?_) (AllFrom.cons (fun a' w' hg hk hd => ?_) (AllFrom.cons (fun a' w' hg hk hd => ?_) (AllFrom.cons (fun a' w' hg hk hd => ?_) (AllFrom.cons (fun a' w' hg hk hd => ?_) (AllFrom.cons (fun a' w' hg hk hd => ?_) (AllFrom.cons (fun a' w' hg hk hd => ?_) (AllFrom.cons (fun a' w' hg hk hd => ?_) (AllFrom.cons (fun a' w' hg hk hd => ?_) AllFrom.nil)))))))))))))))))))
    · skip
      intro Q
      refine wp_call 25 _ (run_enter 25 _ _ rfl (by kernel_rfl)) ?_
      simp only [List.map_toArray, List.map_nil, List.map_cons]
      refine (wroteL_any tA _).mono ?_
      rintro e w5 ⟨⟨g5, rfl, h5⟩, hb5⟩
      exact ⟨_, rfl, KS_mko rfl ⟨g5, rfl, h5⟩, hb5⟩
    · skip
      intro Q
      refine wp_call 25 _ (run_enter 25 _ _ rfl (by kernel_rfl)) ?_
      simp only [List.map_toArray, List.map_nil, List.map_cons]
      refine (wroteL_any tA _).mono ?_
      rintro e w5 ⟨⟨g5, rfl, h5⟩, hb5⟩
      exact ⟨_, rfl, KS_mko rfl ⟨g5, rfl, h5⟩, hb5⟩
    · skip
      intro Q
      have r9 := KS_of (hd.val 1 9 (by decide +kernel)) rfl
      obtain ⟨g_, e9, h_⟩ := r9
      exact wp_grow _ _ (by simp only [execOp, List.map_toArray, List.map_cons, List.map_nil, e9, Sem.run_bind, Sem.run_pure]; exact congrArg (fun r => Result.andThen r _) (build_rec1 (wrR tA g_) _)) ((Below.refl _ _).alloc (Nat.le_refl _) _) (KS_mko rfl ⟨g_, rdR_one h_⟩)
    · skip
      intro Q
      have r8 := KS_of (hd.val 0 8 (by decide +kernel)) rfl
      have r10 := KS_of (hd.val 2 10 (by decide +kernel)) rfl
      refine wp_call 18 _ (run_enter 18 _ _ rfl (by kernel_rfl)) ?_
      simp only [List.map_toArray, List.map_nil, List.map_cons]
      obtain ⟨g_, e8, h_⟩ := r8
      obtain ⟨g2_, h2_⟩ := r10
      rw [e8]
      refine (clashV_any h_ (wr_kok g_) h2_).mono ?_
      rintro e w5 ⟨rfl, hb5⟩
      exact ⟨_, rfl, KS_mkv rfl (by rw [lives_c]), hb5⟩
    · skip
      intro Q
      have e11 : a'.eval (.tmp 11) = .int .i64 0 := KS_val (hd.val 3 11 (by decide +kernel)) rfl
      clear hd hk
      exact wp_value (.bool true) (by simp only [execOp, e11]; go_simp) (KS_mkv rfl rfl)
    · skip
      intro Q
      have e12 : a'.eval (.tmp 12) = .bool true := KS_val (hd.val 4 12 (by decide +kernel)) rfl
      exact wp_value _ (by simp only [execOp, e12]; rfl) (KS_mkv rfl rfl)
    · skip
      have eg : a'.eval (.tmp 13) = .bool true := KS_val (hd.val 5 13 (by decide +kernel)) rfl
      refine ⟨13, true, rfl, eg, fun _ Q => ?_, fun h => absurd rfl h⟩
      have e1 : a'.eval (.tmp 1) = .pointer (some ⟨N1, 0, none⟩) := hk.at 1 (by decide +kernel)
      exact wp_load_row 25 _ rfl _ _ e1 (RC (liR true N)) _ ((BT.out.kept hg).range0) Try.underlying25 rfl (Try.size25) (KS_mkv rfl rfl)
    · skip
      have eg : a'.eval (.tmp 13) = .bool true := KS_val (hd.val 5 13 (by decide +kernel)) rfl
      refine ⟨13, true, rfl, eg, fun _ Q => ?_, fun h => absurd rfl h⟩
      refine wp_call 25 _ (run_enter 25 _ _ rfl (by kernel_rfl)) ?_
      simp only [List.map_toArray, List.map_nil, List.map_cons]
      refine (wroteL_any tA _).mono ?_
      rintro e w5 ⟨⟨g5, rfl, h5⟩, hb5⟩
      exact ⟨_, rfl, KS_mko rfl ⟨g5, rfl, h5⟩, hb5⟩
    · skip
      have eg : a'.eval (.tmp 13) = .bool true := KS_val (hd.val 5 13 (by decide +kernel)) rfl
      refine ⟨13, true, rfl, eg, fun _ Q => ?_, fun h => absurd rfl h⟩
      have r15 := KS_of (hd.val 7 15 (by decide +kernel)) rfl
      obtain ⟨g_, e15, h_⟩ := r15
      exact wp_grow _ _ (by simp only [execOp, List.map_toArray, List.map_cons, List.map_nil, e15, Sem.run_bind, Sem.run_pure]; exact congrArg (fun r => Result.andThen r _) (build_rec1 (wrR tA g_) _)) ((Below.refl _ _).alloc (Nat.le_refl _) _) (KS_mko rfl ⟨g_, rdR_one h_⟩)
    · skip
      have eg : a'.eval (.tmp 13) = .bool true := KS_val (hd.val 5 13 (by decide +kernel)) rfl
      refine ⟨13, true, rfl, eg, fun _ Q => ?_, fun h => absurd rfl h⟩
      have e14 : a'.eval (.tmp 14) = .agg (RC (liR true N)).toArray := KS_val (hd.val 6 14 (by decide +kernel)) rfl
      have r16 := KS_of (hd.val 8 16 (by decide +kernel)) rfl
      refine wp_call 22 _ (run_enter 22 _ _ rfl (by kernel_rfl)) ?_
      simp only [List.map_toArray, List.map_nil, List.map_cons, e14]
      obtain ⟨g2_, h2_⟩ := r16
      refine (mayV_any (RT.out.kept hg) (li_kok true N) h2_).mono ?_
      rintro e w5 ⟨rfl, hb5⟩
      exact ⟨_, rfl, KS_mkv rfl (by rw [lives_m]; rfl), hb5⟩
    · skip
      have eg : a'.eval (.tmp 13) = .bool true := KS_val (hd.val 5 13 (by decide +kernel)) rfl
      refine ⟨13, true, rfl, eg, fun _ Q => ?_, fun h => absurd rfl h⟩
      have e17 : a'.eval (.tmp 17) = .int .i64 10 := KS_val (hd.val 9 17 (by decide +kernel)) rfl
      clear hd hk
      exact wp_value (.bool true) (by simp only [execOp, e17]; go_simp) (KS_mkv rfl rfl)
    · skip
      intro Q
      have e13 : a'.eval (.tmp 13) = .bool true := KS_val (hd.val 5 13 (by decide +kernel)) rfl
      have e18 : a'.eval (.tmp 18) = .bool true := KS_val (hd.val 10 18 (by decide +kernel)) rfl
      clear hd hk
      exact wp_value (.bool true) (by simp only [execOp, e13, e18]; go_simp) (KS_mkv rfl rfl)
    · skip
      intro Q
      have e19 : a'.eval (.tmp 19) = .bool true := KS_val (hd.val 11 19 (by decide +kernel)) rfl
      exact wp_value _ (by simp only [execOp, e19]; rfl) (KS_mkv rfl rfl)
    · skip
      have eg : a'.eval (.tmp 20) = .bool true := KS_val (hd.val 12 20 (by decide +kernel)) rfl
      refine ⟨20, true, rfl, eg, fun _ Q => ?_, fun h => absurd rfl h⟩
      have e2 : a'.eval (.tmp 2) = .pointer (some ⟨N2, 0, none⟩) := hk.at 2 (by decide +kernel)
      exact wp_load_row 25 _ rfl _ _ e2 (RC (liR false N)) _ ((B4.out.kept hg).range0) Try.underlying25 rfl (Try.size25) (KS_mkv rfl rfl)
    · skip
      have eg : a'.eval (.tmp 20) = .bool true := KS_val (hd.val 12 20 (by decide +kernel)) rfl
      refine ⟨20, true, rfl, eg, fun _ Q => ?_, fun h => absurd rfl h⟩
      refine wp_call 25 _ (run_enter 25 _ _ rfl (by kernel_rfl)) ?_
      simp only [List.map_toArray, List.map_nil, List.map_cons]
      refine (wroteL_any tA _).mono ?_
      rintro e w5 ⟨⟨g5, rfl, h5⟩, hb5⟩
      exact ⟨_, rfl, KS_mko rfl ⟨g5, rfl, h5⟩, hb5⟩
    · skip
      have eg : a'.eval (.tmp 20) = .bool true := KS_val (hd.val 12 20 (by decide +kernel)) rfl
      refine ⟨20, true, rfl, eg, fun _ Q => ?_, fun h => absurd rfl h⟩
      have r22 := KS_of (hd.val 14 22 (by decide +kernel)) rfl
      obtain ⟨g_, e22, h_⟩ := r22
      exact wp_grow _ _ (by simp only [execOp, List.map_toArray, List.map_cons, List.map_nil, e22, Sem.run_bind, Sem.run_pure]; exact congrArg (fun r => Result.andThen r _) (build_rec1 (wrR tA g_) _)) ((Below.refl _ _).alloc (Nat.le_refl _) _) (KS_mko rfl ⟨g_, rdR_one h_⟩)
    · skip
      have eg : a'.eval (.tmp 20) = .bool true := KS_val (hd.val 12 20 (by decide +kernel)) rfl
      refine ⟨20, true, rfl, eg, fun _ Q => ?_, fun h => absurd rfl h⟩
      have e21 : a'.eval (.tmp 21) = .agg (RC (liR false N)).toArray := KS_val (hd.val 13 21 (by decide +kernel)) rfl
      have r23 := KS_of (hd.val 15 23 (by decide +kernel)) rfl
      refine wp_call 22 _ (run_enter 22 _ _ rfl (by kernel_rfl)) ?_
      simp only [List.map_toArray, List.map_nil, List.map_cons, e21]
      obtain ⟨g2_, h2_⟩ := r23
      refine (mayV_any (RF.out.kept hg) (li_kok false N) h2_).mono ?_
      rintro e w5 ⟨rfl, hb5⟩
      exact ⟨_, rfl, KS_mkv rfl (by rw [lives_m]; rfl), hb5⟩
    · skip
      have eg : a'.eval (.tmp 20) = .bool true := KS_val (hd.val 12 20 (by decide +kernel)) rfl
      refine ⟨20, true, rfl, eg, fun _ Q => ?_, fun h => absurd rfl h⟩
      have e24 : a'.eval (.tmp 24) = .int .i64 0 := KS_val (hd.val 16 24 (by decide +kernel)) rfl
      clear hd hk
      exact wp_value (.bool true) (by simp only [execOp, e24]; go_simp) (KS_mkv rfl rfl)
    · skip
      intro Q
      have e20 : a'.eval (.tmp 20) = .bool true := KS_val (hd.val 12 20 (by decide +kernel)) rfl
      have e25 : a'.eval (.tmp 25) = .bool true := KS_val (hd.val 17 25 (by decide +kernel)) rfl
      clear hd hk
      exact wp_value (.bool true) (by simp only [execOp, e20, e25]; go_simp) (KS_mkv rfl rfl)
    · skip
      intro Q
      have e26 : a'.eval (.tmp 26) = .bool true := KS_val (hd.val 18 26 (by decide +kernel)) rfl
      exact wp_value _ (by simp only [execOp, e26]; rfl) (KS_mkv rfl rfl)
  · intro a' w' hsz hdf hk hall hg
    have L9 : Hid (Below w.heap.size w w') := (show _ from L4.out.trans (hg.mono L4.out.size))
    have r8 : (fun W v_ => ∃ g_, v_ = .agg (RC (wrR tA g_)).toArray ∧ ROk W (wrR tA g_)) w' (a'.eval (.tmp 8)) := KS_of (hall 0 _ 8 rfl rfl) rfl
    obtain ⟨x8, hx8⟩ : ∃ v, a'.eval (.tmp 8) = v := ⟨_, rfl⟩
    rw [hx8] at r8
    have r9 : (fun W v_ => ∃ g_, v_ = .agg (RC (wrR tA g_)).toArray ∧ ROk W (wrR tA g_)) w' (a'.eval (.tmp 9)) := KS_of (hall 1 _ 9 rfl rfl) rfl
    obtain ⟨x9, hx9⟩ : ∃ v, a'.eval (.tmp 9) = v := ⟨_, rfl⟩
    rw [hx9] at r9
    have r10 : (fun W v_ => ∃ g_, RdR9 W v_ [wrR tA g_]) w' (a'.eval (.tmp 10)) := KS_of (hall 2 _ 10 rfl rfl) rfl
    obtain ⟨x10, hx10⟩ : ∃ v, a'.eval (.tmp 10) = v := ⟨_, rfl⟩
    rw [hx10] at r10
    have e11 : a'.eval (.tmp 11) = .int .i64 0 := KS_val (hall 3 _ 11 rfl rfl) rfl
    have e12 : a'.eval (.tmp 12) = .bool true := KS_val (hall 4 _ 12 rfl rfl) rfl
    have e13 : a'.eval (.tmp 13) = .bool true := KS_val (hall 5 _ 13 rfl rfl) rfl
    have e14 : a'.eval (.tmp 14) = .agg (RC (liR true N)).toArray := KS_val (hall 6 _ 14 rfl rfl) rfl
    have r15 : (fun W v_ => ∃ g_, v_ = .agg (RC (wrR tA g_)).toArray ∧ ROk W (wrR tA g_)) w' (a'.eval (.tmp 15)) := KS_of (hall 7 _ 15 rfl rfl) rfl
    obtain ⟨x15, hx15⟩ : ∃ v, a'.eval (.tmp 15) = v := ⟨_, rfl⟩
    rw [hx15] at r15
    have r16 : (fun W v_ => ∃ g_, RdR9 W v_ [wrR tA g_]) w' (a'.eval (.tmp 16)) := KS_of (hall 8 _ 16 rfl rfl) rfl
    obtain ⟨x16, hx16⟩ : ∃ v, a'.eval (.tmp 16) = v := ⟨_, rfl⟩
    rw [hx16] at r16
    have e17 : a'.eval (.tmp 17) = .int .i64 10 := KS_val (hall 9 _ 17 rfl rfl) rfl
    have e18 : a'.eval (.tmp 18) = .bool true := KS_val (hall 10 _ 18 rfl rfl) rfl
    have e19 : a'.eval (.tmp 19) = .bool true := KS_val (hall 11 _ 19 rfl rfl) rfl
    have e20 : a'.eval (.tmp 20) = .bool true := KS_val (hall 12 _ 20 rfl rfl) rfl
    have e21 : a'.eval (.tmp 21) = .agg (RC (liR false N)).toArray := KS_val (hall 13 _ 21 rfl rfl) rfl
    have r22 : (fun W v_ => ∃ g_, v_ = .agg (RC (wrR tA g_)).toArray ∧ ROk W (wrR tA g_)) w' (a'.eval (.tmp 22)) := KS_of (hall 14 _ 22 rfl rfl) rfl
    obtain ⟨x22, hx22⟩ : ∃ v, a'.eval (.tmp 22) = v := ⟨_, rfl⟩
    rw [hx22] at r22
    have r23 : (fun W v_ => ∃ g_, RdR9 W v_ [wrR tA g_]) w' (a'.eval (.tmp 23)) := KS_of (hall 15 _ 23 rfl rfl) rfl
    obtain ⟨x23, hx23⟩ : ∃ v, a'.eval (.tmp 23) = v := ⟨_, rfl⟩
    rw [hx23] at r23
    have e24 : a'.eval (.tmp 24) = .int .i64 0 := KS_val (hall 16 _ 24 rfl rfl) rfl
    have e25 : a'.eval (.tmp 25) = .bool true := KS_val (hall 17 _ 25 rfl rfl) rfl
    have e26 : a'.eval (.tmp 26) = .bool true := KS_val (hall 18 _ 26 rfl rfl) rfl
    have e0 : a'.eval (.tmp 0) = .bool true := KS_val (hall 19 _ 0 rfl rfl) rfl
    have ha := act_puts 27 rfl hsz hdf hk [8, 9, 10, 11, 12, 13, 14, 15, 16, 17, 18, 19, 20, 21, 22, 23, 24, 25, 26, 0] (by decide +kernel)
    simp only [puts, List.foldl_cons, List.foldl_nil, hx8, hx9, hx10, e11, e12, e13, e14, hx15, hx16, e17, e18, e19, e20, e21, hx22, hx23, e24, e25, e26, e0] at ha
    simp only [Act.put, List.setIfInBounds_toArray, List.set_cons_succ, List.set_cons_zero] at ha
    clear hall hk hsz hdf hx8 hx9 hx10 e11 e12 e13 e14 hx15 hx16 e17 e18 e19 e20 e21 hx22 hx23 e24 e25 e26 e0
    subst ha
    go_wp2_with fail
    go_ret
    exact ⟨rfl, L9.out⟩
#print axioms lives_any
end Go.Proofs.Ythniaoacanabdaa
