/-
  The document's session: Begin: what the call does.
-/
import Derived.Test.YtcicekggeampcaaGreatYrB
namespace Go.Proofs.YtcicekggeampcaaGreat
open Go.RowKit
theorem build_rbuf : ∀ W : World, (Instr.build 93 #[]).run Tryz.prog W = .ok (.agg #[.slice none 0 0]) W := fun W => by kernel_rfl
theorem build_open (n m : Int) (st : Bool) (g : Nat) : ∀ W : World, (Instr.build 47 #[(0, .int .i64 n), (1, .bool true), (2, .int .i64 m), (3, .bool st), (6, PT g)]).run Tryz.prog W = .ok (.agg (YC n (some (⟨g, .slice none 0 0, none, 0, []⟩, ⟨m, st, [], [], 0⟩))).toArray) W := fun W => by kernel_rfl
set_option maxRecDepth 100000 in
theorem yBegin_some {w : World} {B Y : Nat} {id : Int} {b : Yb} {t : Tx} (h : YAt w B Y id (some (b, t))) (v : Value) (st : Bool) : Calls Tryz.prog 19 #[PT Y, v, .bool st] w fun e w' => e = .returned (.int .i64 9) ∧ w' = w := by
  have c1 := h.x.cell (j := 1) rfl
  clear h
  go_enter Tryz.func19, Tryz.ntmps19
  go_wp2
  go_ret
  exact ⟨rfl, rfl⟩
set_option maxHeartbeats 2000000 in
set_option maxRecDepth 100000 in
theorem yBegin_any {w : World} {B Y R : Nat} {id : Int} {vr : Value} {rs : List RK} {s : SP} (h : YAt w B Y id none) (hs : RS w R vr rs s) (hB : B ≤ w.heap.size) (st : Bool) :
    Calls Tryz.prog 19 #[PT Y, PT R, .bool st] w fun e w' => e = .returned (.int .i64 0) ∧ ∃ b, YAt w' B Y id (some (b, ⟨s.last, st, [], [], 0⟩)) ∧ Chg (fun k => k = Y) w w' ∧ ∀ k, YG Y (some (b, ⟨s.last, st, [], [], 0⟩)) k → k = Y ∨ w.heap.size ≤ k := by
  have H := hide h
  have HB := hide hB
  have c1 := h.x.cell (j := 1) rfl
  obtain ⟨sl, HSL⟩ : ∃ x : Int, Hid (s.last = x) := ⟨_, rfl⟩
  obtain ⟨N, HN⟩ : ∃ N, Hid (w.heap.size = N) := ⟨_, rfl⟩
  have C0 : Hid (∀ W : World, Below w.heap.size w W → W.cell? ⟨Y, 0, none⟩ = some (.int .i64 id)) := (show _ from fun W hW => (h.x.kept hW).cell (j := 0) rfl)
  have C1 : Hid (∀ W : World, Below w.heap.size w W → W.cell? ⟨R, 1, none⟩ = some (.int .i64 sl)) := (show _ from fun W hW => by rw [← HSL.out]; exact (hs.d.kept hW).cell (j := 1) rfl)
  rw [HSL.out]
  clear h hs hB
  go_enter Tryz.func19, Tryz.ntmps19
  go_upto_region 3 with fail
  refine wp_region_tails Tryz.mixed (KS (fun i_ => match i_ with | 0 | 1 => .val (PT Y) | 2 | 3 | 13 => .val (.pointer (some ⟨Y, 0, none⟩)) | 4 => .val (.int .i64 id) | 5 => .val (PT R) | 6 => .val (.pointer (some ⟨R, 0, none⟩)) | 7 => .val (.pointer (some ⟨R, 1, none⟩)) | 8 => .val (.int .i64 sl) | 9 => .val (.bool st) | 10 => .val (.agg #[.slice none 0 0]) | 11 => .of (fun w v_ => ∃ g, v_ = PT g ∧ N ≤ g ∧ Blk w g 93 [.slice none 0 0]) (fun _ _ _ hg ⟨g, h1, h2, h3⟩ => ⟨g, h1, h2, h3.kept hg⟩) | 12 => .of (fun w v_ => ∃ g, v_ = .agg (YC id (some (⟨g, .slice none 0 0, none, 0, []⟩, ⟨sl, st, [], [], 0⟩))).toArray ∧ N ≤ g ∧ Blk w g 93 [.slice none 0 0]) (fun _ _ _ hg ⟨g, h1, h2, h3⟩ => ⟨g, h1, h2, h3.kept hg⟩) | _ => .free)) 25 rfl (by decide +kernel) 14 (by decide) (by decide +kernel) (KS_mono _) ?_ ?_
  · refine AllFrom.cons ⟨rfl, fun a' w' hg hk hd => ?_⟩ (AllFrom.cons ⟨rfl, fun a' w' hg hk hd => ?_⟩ (AllFrom.cons ⟨rfl, fun a' w' hg hk hd => ?_⟩ (AllFrom.cons ⟨rfl, fun a' w' hg hk hd => ?_⟩ (AllFrom.cons ⟨rfl, fun a' w' hg hk hd => ?_⟩ (AllFrom.cons ⟨rfl, fun a' w' hg hk hd => ?_⟩ (AllFrom.cons ⟨rfl, fun a' w' hg hk hd => ?_⟩ (AllFrom.cons ⟨rfl, fun a' w' hg hk hd => ?_⟩ (AllFrom.cons ⟨rfl, fun a' w' hg hk hd => ?_⟩ (AllFrom.cons ⟨rfl, fun a' w' hg hk hd => ?_⟩ (AllFrom.cons ⟨rfl, fun a' w' hg hk hd => ?_⟩ (AllFrom.cons ⟨rfl, fun a' w' hg hk hd => ?_⟩ (AllFrom.cons ⟨rfl, fun a' w' hg hk hd => ?_⟩ (AllFrom.cons ⟨rfl, fun a' w' hg hk hd => ?_⟩ AllFrom.nil)))))))))))))
    · skip
      intro Q
      have e0 : a'.eval (.tmp 0) = PT Y := hk.at 0 (by decide +kernel)
      exact wp_value _ (by simp only [execOp, e0]; rfl) (KS_mkv rfl rfl)
    · skip
      intro Q
      have e0 : a'.eval (.tmp 0) = PT Y := hk.at 0 (by decide +kernel)
      exact wp_value _ (by simp only [execOp, e0]; rfl) (KS_mkv rfl rfl)
    · skip
      intro Q
      have e12 : a'.eval (.tmp 12) = PT Y := KS_val (hd.val 1 12 (by decide +kernel)) rfl
      clear hd hk
      exact wp_value (.pointer (some ⟨Y, 0, none⟩)) (by simp only [execOp, e12]; go_simp) (KS_mkv rfl rfl)
    · skip
      intro Q
      have e13 : a'.eval (.tmp 13) = .pointer (some ⟨Y, 0, none⟩) := KS_val (hd.val 2 13 (by decide +kernel)) rfl
      clear hd hk
      exact wp_value (.pointer (some ⟨Y, 0, none⟩)) (by simp only [execOp, e13]; go_simp) (KS_mkv rfl rfl)
    · skip
      intro Q
      have e14 : a'.eval (.tmp 14) = .pointer (some ⟨Y, 0, none⟩) := KS_val (hd.val 3 14 (by decide +kernel)) rfl
      have hc := C0.out _ hg
      clear hd hk
      exact wp_value (.int .i64 id) (by simp only [execOp, e14]; go_simp) (KS_mkv rfl rfl)
    · skip
      intro Q
      have e1 : a'.eval (.tmp 1) = PT R := hk.at 1 (by decide +kernel)
      exact wp_value _ (by simp only [execOp, e1]; rfl) (KS_mkv rfl rfl)
    · skip
      intro Q
      have e16 : a'.eval (.tmp 16) = PT R := KS_val (hd.val 5 16 (by decide +kernel)) rfl
      clear hd hk
      exact wp_value (.pointer (some ⟨R, 0, none⟩)) (by simp only [execOp, e16]; go_simp) (KS_mkv rfl rfl)
    · skip
      intro Q
      have e17 : a'.eval (.tmp 17) = .pointer (some ⟨R, 0, none⟩) := KS_val (hd.val 6 17 (by decide +kernel)) rfl
      clear hd hk
      exact wp_value (.pointer (some ⟨R, 1, none⟩)) (by simp only [execOp, e17]; go_simp) (KS_mkv rfl rfl)
    · skip
      intro Q
      have e18 : a'.eval (.tmp 18) = .pointer (some ⟨R, 1, none⟩) := KS_val (hd.val 7 18 (by decide +kernel)) rfl
      have hc := C1.out _ hg
      clear hd hk
      exact wp_value (.int .i64 sl) (by simp only [execOp, e18]; go_simp) (KS_mkv rfl rfl)
    · skip
      intro Q
      have e2 : a'.eval (.tmp 2) = .bool st := hk.at 2 (by decide +kernel)
      exact wp_value _ (by simp only [execOp, e2]; rfl) (KS_mkv rfl rfl)
    · skip
      intro Q
      clear hd hk
      exact wp_value (.agg #[.slice none 0 0]) (by simp only [execOp, List.map_toArray, List.map_nil, build_rbuf, Sem.run_bind, Result.andThen_ok]; rfl) (KS_mkv rfl rfl)
    · skip
      intro Q
      have e21 : a'.eval (.tmp 21) = .agg #[.slice none 0 0] := KS_val (hd.val 10 21 (by decide +kernel)) rfl
      have hN : N ≤ w'.heap.size := by have := hg.size; have := HN.out; omega
      clear hd hk
      exact wp_grow _ _ (by simp only [execOp, e21]; go_simp) ((Below.refl _ _).alloc (Nat.le_refl _) _) (KS_mko rfl ⟨_, rfl, hN, Blk.new w' 93 [.slice none 0 0]⟩)
    · skip
      intro Q
      have e15 : a'.eval (.tmp 15) = .int .i64 id := KS_val (hd.val 4 15 (by decide +kernel)) rfl
      have e19 : a'.eval (.tmp 19) = .int .i64 sl := KS_val (hd.val 8 19 (by decide +kernel)) rfl
      have e20 : a'.eval (.tmp 20) = .bool st := KS_val (hd.val 9 20 (by decide +kernel)) rfl
      have r22 := KS_of (hd.val 11 22 (by decide +kernel)) rfl
      obtain ⟨g, eg, hg1, hg2⟩ := r22
      clear hd hk
      exact wp_value (.agg (YC id (some (⟨g, .slice none 0 0, none, 0, []⟩, ⟨sl, st, [], [], 0⟩))).toArray) (by simp only [execOp, List.map_toArray, List.map_cons, List.map_nil, e15, e19, e20, eg, show Act.eval a' (.const (.bool true)) = .bool true from rfl, build_open, Sem.run_bind, Result.andThen_ok]; rfl) (KS_mko rfl ⟨g, rfl, hg1, hg2⟩)
    · skip
      intro Q
      have e11 : a'.eval (.tmp 11) = PT Y := KS_val (hd.val 0 11 (by decide +kernel)) rfl
      clear hd hk
      exact wp_value (.pointer (some ⟨Y, 0, none⟩)) (by simp only [execOp, e11]; go_simp) (KS_mkv rfl rfl)
  · intro a' w3 hsz hdf hk hall hg
    have e11 : a'.eval (.tmp 11) = PT Y := KS_val (hall 0 _ 11 (by decide) rfl rfl) rfl
    have e12 : a'.eval (.tmp 12) = PT Y := KS_val (hall 1 _ 12 (by decide) rfl rfl) rfl
    have e13 : a'.eval (.tmp 13) = .pointer (some ⟨Y, 0, none⟩) := KS_val (hall 2 _ 13 (by decide) rfl rfl) rfl
    have e14 : a'.eval (.tmp 14) = .pointer (some ⟨Y, 0, none⟩) := KS_val (hall 3 _ 14 (by decide) rfl rfl) rfl
    have e15 : a'.eval (.tmp 15) = .int .i64 id := KS_val (hall 4 _ 15 (by decide) rfl rfl) rfl
    have e16 : a'.eval (.tmp 16) = PT R := KS_val (hall 5 _ 16 (by decide) rfl rfl) rfl
    have e17 : a'.eval (.tmp 17) = .pointer (some ⟨R, 0, none⟩) := KS_val (hall 6 _ 17 (by decide) rfl rfl) rfl
    have e18 : a'.eval (.tmp 18) = .pointer (some ⟨R, 1, none⟩) := KS_val (hall 7 _ 18 (by decide) rfl rfl) rfl
    have e19 : a'.eval (.tmp 19) = .int .i64 sl := KS_val (hall 8 _ 19 (by decide) rfl rfl) rfl
    have e20 : a'.eval (.tmp 20) = .bool st := KS_val (hall 9 _ 20 (by decide) rfl rfl) rfl
    have e21 : a'.eval (.tmp 21) = .agg #[.slice none 0 0] := KS_val (hall 10 _ 21 (by decide) rfl rfl) rfl
    obtain ⟨x22, e22⟩ : ∃ v, a'.eval (.tmp 22) = v := ⟨_, rfl⟩
    obtain ⟨g, e23, hgN, hgB⟩ := KS_of (hall 12 _ 23 (by decide) rfl rfl) rfl
    have e24 : a'.eval (.tmp 24) = .pointer (some ⟨Y, 0, none⟩) := KS_val (hall 13 _ 24 (by decide) rfl rfl) rfl
    have ha := act_puts 25 rfl hsz hdf hk [11, 12, 13, 14, 15, 16, 17, 18, 19, 20, 21, 22, 23, 24] (by decide +kernel)
    simp only [puts, List.foldl_cons, List.foldl_nil, e11, e12, e13, e14, e15, e16, e17, e18, e19, e20, e21, e22, e23, e24] at ha
    simp only [Act.put, List.setIfInBounds_toArray, List.set_cons_succ, List.set_cons_zero] at ha
    have G3 := hide hg
    have HGN := hide hgN
    have HGB := hide hgB
    clear hall hk hsz hdf hg hgN hgB e11 e12 e13 e14 e15 e16 e17 e18 e19 e20 e21 e22 e23 e24
    subst ha
    have B3 := hide (H.out.x.kept G3.out)
    refine ⟨rfl, ?_⟩
    refine wp_store_blk 47 _ _ rfl Y (YC id none) (YC id (some (⟨g, .slice none 0 0, none, 0, []⟩, ⟨sl, st, [], [], 0⟩))) 47 rfl rfl B3.out rfl Tryz.size47 (YC_one _ _) ?_
    intro w4 hb4 hu4
    refine ⟨_, rfl, ?_⟩
    simp only [wpSeq]
    have B4 := hide hb4
    have U4 := hide hu4
    clear hb4 hu4
    go_wp2_with fail
    go_ret
    have hgY : g ≠ Y := by have := B3.out.lt; have := H.out.x.lt; have := HN.out; have := HGN.out; omega
    refine ⟨rfl, ⟨g, .slice none 0 0, none, 0, []⟩, ⟨B4.out, H.out.lo, fun b t e => ?_⟩, (Chg.of_below G3.out).trans (Chg.of_but U4.out rfl), fun k hk => ?_⟩
    · cases e
      exact ⟨ownG_nil _ _ _, fun _ hy => (by cases hy), rfl, ⟨HGB.out.but U4.out hgY, ownG_nil _ _ _⟩, by have := HB.out; have := HN.out; have := HGN.out; show B ≤ g; omega, Nat.le_refl _, Nat.zero_le _⟩
    · rcases hk with hk | hk | hk
      · exact .inl hk
      · rw [hk]; exact .inr (by rw [HN.out]; exact HGN.out)
      · cases hk
end Go.Proofs.YtcicekggeampcaaGreat
