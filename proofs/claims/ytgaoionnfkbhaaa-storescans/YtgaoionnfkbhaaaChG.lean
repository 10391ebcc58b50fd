/-
  The reference's Get: what the call does.
-/
import Derived.Test.YtgaoionnfkbhaaaChF
namespace Go.Proofs.Ytgaoionnfkbhaaa
open Go.RowKit

/-- What the loop holds: the last one, or none. -/
def lastOr (M : List Ver) : Ver := M.getLast?.getD zv
theorem lastOr_snoc (M : List Ver) (v : Ver) : lastOr (M ++ [v]) = v := by simp [lastOr]
theorem lastOr_some {M : List Ver} (h : M ≠ []) : M.getLast? = some (lastOr M) := by
  unfold lastOr
  cases e : M.getLast? with
  | none => exact absurd (List.getLast?_eq_none_iff.1 e) h
  | some v => rfl

set_option maxHeartbeats 2000000 in
set_option maxRecDepth 100000 in
theorem kget_any {w : World} {v : Value} {L : List Ver} (h : RdV w v L) (snap : Int) :
    Calls Try.prog 48 #[v, .int .i64 snap] w fun e w' => e = .returned (.tuple #[.agg (VC (getP L snap).1).toArray, .bool (getP L snap).2]) ∧ Below w.heap.size w w' := by
  have HL := hide h
  obtain ⟨a, cp, rfl⟩ := h.slice
  have hn : L.length ≤ 9223372036854775807 := Nat.le_trans h.cap h.max
  clear h
  have hz := Zrver
  obtain ⟨n, HN⟩ : ∃ n, Hid (L.length = n) := ⟨_, rfl⟩
  rw [HN.out] at HL hn ⊢
  have B1 := hide (Blk.new w 87 (VC zv))
  have L1 := hide ((Below.refl w.heap.size w).alloc (Nat.le_refl _) (.cells (VC zv).toArray 87 (0, 0)))
  go_enter Try.func48, Try.ntmps48
  go_wp2_with fail
  refine (kgood_any (HL.out.kept L1.out)).mono ?_
  rintro e w5 ⟨rfl, hb5⟩
  obtain ⟨G, HG⟩ : ∃ G, Hid (w.heap.size = G) := ⟨_, rfl⟩
  have L5 : Hid (Below w.heap.size w w5) := L1.out.trans (hb5.mono L1.out.size)
  have B5 : Hid (Blk w5 G 87 (VC zv)) := (show Blk _ _ _ _ by rw [← HG.out]; exact B1.out.kept hb5)
  rw [HG.out]
  clear hb5 B1 L1
  obtain ⟨q, HQ⟩ : ∃ q, Hid (gd 0 L = q) := ⟨_, rfl⟩
  rw [HQ.out]
  cases q with
  | false =>
    have HF := hide (getP_bad HQ.out snap)
    go_wp2_with (first
      | (refine wpList_buildK rfl 87 #[] rfl (.agg (VC zv).toArray) (by kernel_rfl) ?_)
      | (refine wpList_store_ver rfl 87 _ _ rfl G zv zv rfl rfl 87 B5.out Try.size87 ?_; intro w7 B7 T7)
      | fail)
    refine bodyPost_ret (results_ver rfl _ _ G zv false 87 _ rfl rfl B7.out Try.underlying87 rfl Try.size87) rfl ⟨by rw [HF.out], ?_⟩
    exact L5.out.trans ((T7.out.below (by rw [← HG.out]; exact Nat.le_refl _) L5.out.size))
  | true =>
    have X6 := hide (Blk.new w5 87 (VC zv))
    have L6 : Hid (Below w.heap.size w (w5.alloc (.cells (VC zv).toArray 87 (0, 0)))) := L5.out.trans (((Below.refl _ _).alloc (Nat.le_refl _) _).mono L5.out.size)
    have G6 : Hid (Blk (w5.alloc (.cells (VC zv).toArray 87 (0, 0))) G 87 (VC zv)) := B5.out.alloc _
    obtain ⟨X, HX⟩ : ∃ X, Hid (w5.heap.size = X) := ⟨_, rfl⟩
    have HGX : Hid (G < X) := (show G < X by rw [← HX.out]; exact B5.out.lt)
    have HwX : Hid (w.heap.size ≤ X) := (show _ ≤ _ by rw [← HX.out]; exact L5.out.size)
    go_upto_region 4 with (first
      | (refine wpList_buildK rfl 87 #[] rfl (.agg (VC zv).toArray) (by kernel_rfl) ?_)
      | (refine wpList_store_new rfl 87 _ _ rfl w5 _ (VC zv).toArray _ rfl rfl rfl Try.size87 rfl (all_one (VC_one zv)) ?_)
      | fail)
    rw [HX.out] at X6 ⊢
    generalize w5.alloc (.cells (VC zv).toArray 87 (0, 0)) = w6 at X6 L6 G6 ⊢
    clear B5 L5
    go_wp2_with fail
    go_loopg [7, 17] n (fun g y x wr => ∃ (i : Nat), g + i = n ∧ x = .int .i64 (i : Int) ∧ y = .bool (!(upto snap (L.take i)).isEmpty) ∧ Hid (Blk wr X 87 (VC (lastOr (upto snap (L.take i))))) ∧ Hid (Blk wr G 87 (VC zv)) ∧ Hid (Below w.heap.size w wr))
    case atStart => exact ⟨0, by omega, rfl, rfl, X6, G6, L6⟩
    case round =>
      clear X6 L6 G6
      obtain ⟨i, hgi, rfl, rfl, XR, GR, LR⟩ := hrel
      by_cases hlt : i < n
      · have q2 : (i : Int) < (n : Int) := by omega
        obtain ⟨b, off, rfl, hlb, hx⟩ := (HL.out.kept LR.out).nth (by omega)
        have hlt' : i < L.length := by rw [HN.out]; exact hlt
        have hr := hx i hlt'
        obtain ⟨p, HP⟩ : ∃ p, Hid (L[i] = p) := ⟨L[i], (show L[i] = L[i] from rfl)⟩
        rw [HP.out] at hr
        clear hx
        go_upto_region 7 with (first
          | (refine wpList_load_mid rfl 87 _ rfl b (off + i * 3) rfl (VC p) _ hr Try.underlying87 rfl Try.size87 ?_)
          | (refine wpList_store_new rfl 87 _ _ rfl wr _ (VC p).toArray _ rfl rfl rfl Try.size87 rfl (all_one (VC_one p)) ?_)
          | fail)
        obtain ⟨E, HE⟩ : ∃ E, Hid (wr.heap.size = E) := ⟨_, rfl⟩
        rw [HE.out]
        obtain ⟨w4, hw4⟩ : ∃ x, x = wr.alloc (.cells (VC p).toArray 87 (0, 0)) := ⟨_, rfl⟩
        rw [← hw4]
        have G4 : Hid (Below wr.heap.size wr w4) := (show Below _ _ _ by rw [hw4]; exact (Below.refl _ _).alloc (Nat.le_refl _) _)
        have L4 : Hid (Below w.heap.size w w4) := LR.out.trans (G4.out.mono LR.out.size)
        have B4 : Hid (Blk w4 E 87 (VC p)) := (show Blk _ _ _ _ by rw [hw4, ← HE.out]; exact Blk.new wr 87 (VC p))
        clear hw4 hr
        have c0 := B4.out.cell (j := 0) rfl
        have X4 : Hid (Blk w4 X 87 (VC (lastOr (upto snap (L.take i))))) := XR.out.kept G4.out
        have GG4 : Hid (Blk w4 G 87 (VC zv)) := GR.out.kept G4.out
        have HXE : Hid (X < E) := (show X < E by rw [← HE.out]; exact XR.out.lt)
        have HS : Hid (upto snap (L.take (i + 1)) = upto snap (L.take i) ++ if p.1 ≤ snap then [p] else []) := (show _ = _ by
          rw [take_snoc hlt', upto_snoc, HP.out])
        generalize upto snap (L.take i) = M at XR X4 HS ⊢
        by_cases hx : p.1 ≤ snap
        · rw [if_pos hx] at HS
          have q3 : decide (p.1 ≤ snap) = true := by simp [hx]
          have R4 := B4.out.range0
          go_wp2_with (first
            | (refine wpList_load_mid rfl 87 _ rfl E 0 rfl (VC p) _ R4 Try.underlying87 rfl Try.size87 ?_)
            | (refine wpList_store_ver rfl 87 _ _ rfl X p _ rfl rfl 87 X4.out Try.size87 ?_; intro w7 B7 T7)
            | fail)
          have L7 : Hid (Below w.heap.size w w7) := L4.out.trans (T7.out.below HwX.out L4.out.size)
          have G7 : Hid (Blk w7 G 87 (VC zv)) := GG4.out.but T7.out (Nat.ne_of_lt HGX.out)
          go_roundg (gk - 1)
          case measure => omega
          case rel => exact ⟨i + 1, by omega, by go_num, (by rw [HS.out]; simp), (show Blk _ _ _ _ by rw [HS.out, lastOr_snoc]; exact B7.out), G7, L7⟩
        · rw [if_neg hx, List.append_nil] at HS
          have q3 : decide (p.1 ≤ snap) = false := by simp; omega
          go_wp2_with fail
          go_roundg (gk - 1)
          case measure => omega
          case rel => exact ⟨i + 1, by omega, by go_num, (by rw [HS.out]), (show Blk _ _ _ _ by rw [HS.out]; exact X4.out), GG4, L4⟩
      · obtain rfl : i = n := by omega
        have q2 : ¬ (i : Int) < (i : Int) := by omega
        rw [List.take_of_length_le (by rw [HN.out]; exact Nat.le_refl _)] at XR ⊢
        have HE0 := hide (fun (he : upto snap L = []) => getP_none (n := snap) HQ.out (by rw [he]; rfl))
        have HE1 := hide (fun (he : upto snap L ≠ []) => getP_some HQ.out (lastOr_some he))
        generalize upto snap L = M at XR HE0 HE1 ⊢
        cases M with
        | nil =>
          have HF := hide (HE0.out rfl)
          go_wp2_with (first
            | (refine wpList_buildK rfl 87 #[] rfl (.agg (VC zv).toArray) (by kernel_rfl) ?_)
            | (refine wpList_store_ver rfl 87 _ _ rfl G zv zv rfl rfl 87 GR.out Try.size87 ?_; intro w7 B7 T7)
            | fail)
          refine bodyPost_ret (results_ver rfl _ _ G zv false 87 _ rfl rfl B7.out Try.underlying87 rfl Try.size87) rfl ⟨by rw [HF.out], ?_⟩
          exact LR.out.trans ((T7.out.below (by rw [← HG.out]; exact Nat.le_refl _) LR.out.size))
        | cons m M =>
          have HF1 := hide (HE1.out (by simp))
          have e5 : (!(m :: M).isEmpty) = true := rfl
          rw [e5]
          generalize lastOr (m :: M) = p at XR HF1
          obtain ⟨x, s, d⟩ := p
          have c2 := XR.out.cell (j := 2) rfl
          simp only at c2
          have R4 := XR.out.range0
          clear HE0 HE1
          cases d with
          | true =>
            have HF : Hid (getP L snap = (zv, false)) := HF1.out
            go_wp2_with (first
              | (refine wpList_buildK rfl 87 #[] rfl (.agg (VC zv).toArray) (by kernel_rfl) ?_)
              | (refine wpList_store_ver rfl 87 _ _ rfl G zv zv rfl rfl 87 GR.out Try.size87 ?_; intro w7 B7 T7)
              | fail)
            refine bodyPost_ret (results_ver rfl _ _ G zv false 87 _ rfl rfl B7.out Try.underlying87 rfl Try.size87) rfl ⟨by rw [HF.out], ?_⟩
            exact LR.out.trans ((T7.out.below (by rw [← HG.out]; exact Nat.le_refl _) LR.out.size))
          | false =>
            have HF : Hid (getP L snap = ((x, s, false), true)) := HF1.out
            go_wp2_with (first
              | (refine wpList_load_mid rfl 87 _ rfl X 0 rfl (VC (x, s, false)) _ R4 Try.underlying87 rfl Try.size87 ?_)
              | (refine wpList_store_ver rfl 87 _ _ rfl G (x, s, false) zv rfl rfl 87 GR.out Try.size87 ?_; intro w7 B7 T7)
              | fail)
            refine bodyPost_ret (results_ver rfl _ _ G (x, s, false) true 87 _ rfl rfl B7.out Try.underlying87 rfl Try.size87) rfl ⟨by rw [HF.out], ?_⟩
            exact LR.out.trans ((T7.out.below (by rw [← HG.out]; exact Nat.le_refl _) LR.out.size))
#print axioms kget_any
end Go.Proofs.Ytgaoionnfkbhaaa
