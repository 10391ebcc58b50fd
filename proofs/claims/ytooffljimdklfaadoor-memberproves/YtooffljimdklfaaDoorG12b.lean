/-
  Texts that ride together: MbS MbV MbW MbX.
-/
import Derived.Test.YtooffljimdklfaaDoorG12a
import Derived.Test.YtooffljimdklfaaDoorG11s
/-
  What the search for the middle asks, and the search: what the calls do.
-/
namespace Go.Proofs.YtooffljimdklfaaDoor
open Go.RowKit
/-- An item as an end. -/
def enI (x : It) : En := (true, x.1, x.2)
set_option maxHeartbeats 2000000 in
set_option maxRecDepth 100000 in
theorem above1_any {w : World} {a : Option Addr} {n cap : Nat} {L : List It} {Bc Bb q : Nat} (h : RdG EN w (.slice a n cap) (L.map enI)) (hc : w.cell? ⟨Bc, 0, none⟩ = some (.slice a n cap)) (hs : w.cell? ⟨Bb, 0, none⟩ = some (.int .i64 (q : Int))) (i : Nat) (hi : i < L.length) :
    Calls Tryd.prog 66 #[.int .i64 (i : Int), .pointer (some ⟨Bc, 0, none⟩), .pointer (some ⟨Bb, 0, none⟩)] w fun e w' => e = .returned (.bool (bit L[i].1 q)) ∧ Below w.heap.size w w' := by
  have hln := h.len
  rw [List.length_map] at hln
  obtain ⟨b, off, rfl, hlb, hx⟩ := h.nth (by omega)
  have hrx := hx i (by rw [List.length_map]; exact hi)
  rw [List.getElem_map] at hrx
  obtain ⟨x, HX⟩ : ∃ x, Hid (L[i] = x) := ⟨L[i], (show L[i] = L[i] from rfl)⟩
  rw [HX.out] at hrx ⊢
  have hrk : w.rangeAt b (off + i * 65 + 1) (By x.1.1) := ENkey hrx
  have hbc := World.block_lt_of_cell? _ _ hc
  have hbb := World.block_lt_of_cell? _ _ hs
  have HC := hide hc
  have HS := hide hs
  have hin : (i : Int) < (n : Int) := by omega
  have hin2 : i < n := by omega
  have CB := hide (fun w => kBit_any x.1 (q : Int) w)
  rw [bitZ_nat] at CB
  unfold bitN at CB
  obtain ⟨s, HB⟩ : ∃ s, Hid (bit x.1 q = s) := ⟨_, rfl⟩
  rw [HB.out] at CB
  rw [HB.out]
  clear hx hrx hln h hc hs hi HX
  go_enter Tryd.func66, Tryd.ntmps66
  go_upto_region 1 with fail
  cases s with
  | true =>
    refine wp_region_inv Tryd.mixed (KS (fun i_ => match i_ with | 0 => .val (.slice (some ⟨b, off, none⟩) n cap) | 1 => .val (.int .i64 (i : Int)) | 2 => .val (.pointer (some ⟨b, off + i * 65, none⟩)) | 3 => .val (.pointer (some ⟨b, off + i * 65 + 1, none⟩)) | 4 => .val (HV x.1) | 5 => .val (.int .i64 (q : Int)) | 6 => .val (.int .i64 1) | 7 | 8 => .val (.bool true) | _ => .free)) 13 rfl (by decide +kernel) (KS_mono _) ?_ ?_
    · refine AllFrom.cons (fun a' w' hg hk hd => ?_) (AllFrom.cons (fun a' w' hg hk hd => ?_) (AllFrom.cons (fun a' w' hg hk hd => ?_) (AllFrom.cons (fun a' w' hg hk hd => ?_) (AllFrom.cons (fun a' w' hg hk hd => ?_) (AllFrom.cons (fun a' w' hg hk hd => ?_) (AllFrom.cons (fun a' w' hg hk hd => ?_) (AllFrom.cons (fun a' w' hg hk hd => ?_) (AllFrom.cons (fun a' w' hg hk hd => ?_) AllFrom.nil))))))))
      · skip
        intro Q
        have e1 : a'.eval (.tmp 1) = .pointer (some ⟨Bc, 0, none⟩) := hk.at 1 (by decide +kernel)
        have hc := (hg.cell (p := ⟨Bc, 0, none⟩) hbc).trans HC.out
        clear hd hk
        exact wp_value (.slice (some ⟨b, off, none⟩) n cap) (by simp only [execOp, e1]; go_simp) (KS_mkv rfl rfl)
      · skip
        intro Q
        have e0 : a'.eval (.tmp 0) = .int .i64 (i : Int) := hk.at 0 (by decide +kernel)
        exact wp_value _ (by simp only [execOp, e0]; rfl) (KS_mkv rfl rfl)
      · skip
        intro Q
        have e5 : a'.eval (.tmp 5) = .slice (some ⟨b, off, none⟩) n cap := KS_val (hd.val 0 5 (by decide +kernel)) rfl
        have e6 : a'.eval (.tmp 6) = .int .i64 (i : Int) := KS_val (hd.val 1 6 (by decide +kernel)) rfl
        clear hd hk
        exact wp_value (.pointer (some ⟨b, off + i * 65, none⟩)) (by simp only [execOp, e5, e6]; go_simp) (KS_mkv rfl rfl)
      · skip
        intro Q
        have e7 : a'.eval (.tmp 7) = .pointer (some ⟨b, off + i * 65, none⟩) := KS_val (hd.val 2 7 (by decide +kernel)) rfl
        clear hd hk
        exact wp_value (.pointer (some ⟨b, off + i * 65 + 1, none⟩)) (by simp only [execOp, e7]; go_simp) (KS_mkv rfl rfl)
      · skip
        intro Q
        have e8 : a'.eval (.tmp 8) = .pointer (some ⟨b, off + i * 65 + 1, none⟩) := KS_val (hd.val 3 8 (by decide +kernel)) rfl
        exact wp_load_row 24 _ rfl _ _ e8 (By (x.1).1) _ (rangeAt_kept11 hrk hlb hg) Tryd.underlying24 rfl (Tryd.sizeH _) (KS_mkv rfl rfl)
      · skip
        intro Q
        have e2 : a'.eval (.tmp 2) = .pointer (some ⟨Bb, 0, none⟩) := hk.at 2 (by decide +kernel)
        have hc := (hg.cell (p := ⟨Bb, 0, none⟩) hbb).trans HS.out
        clear hd hk
        exact wp_value (.int .i64 (q : Int)) (by simp only [execOp, e2]; go_simp) (KS_mkv rfl rfl)
      · skip
        intro Q
        have e9 : a'.eval (.tmp 9) = HV x.1 := KS_val (hd.val 4 9 (by decide +kernel)) rfl
        have e10 : a'.eval (.tmp 10) = .int .i64 (q : Int) := KS_val (hd.val 5 10 (by decide +kernel)) rfl
        refine wp_call 38 _ (run_enter 38 _ _ rfl (by kernel_rfl)) ?_
        simp only [List.map_toArray, List.map_nil, List.map_cons, e9, e10]
        refine (CB.out _).mono ?_
        rintro e w5 ⟨rfl, hb5⟩
        exact ⟨_, rfl, KS_mkv rfl rfl, hb5⟩
      · skip
        intro Q
        have e11 : a'.eval (.tmp 11) = .int .i64 1 := KS_val (hd.val 6 11 (by decide +kernel)) rfl
        clear hd hk
        exact wp_value (.bool true) (by simp only [execOp, e11]; go_simp) (KS_mkv rfl rfl)
      · skip
        intro Q
        have e12 : a'.eval (.tmp 12) = .bool true := KS_val (hd.val 7 12 (by decide +kernel)) rfl
        exact wp_value _ (by simp only [execOp, e12]; rfl) (KS_mkv rfl rfl)
    · intro a' w3 hsz hdf hk hall hg
      have e5 : a'.eval (.tmp 5) = .slice (some ⟨b, off, none⟩) n cap := KS_val (hall 0 _ 5 rfl rfl) rfl
      have e6 : a'.eval (.tmp 6) = .int .i64 (i : Int) := KS_val (hall 1 _ 6 rfl rfl) rfl
      have e7 : a'.eval (.tmp 7) = .pointer (some ⟨b, off + i * 65, none⟩) := KS_val (hall 2 _ 7 rfl rfl) rfl
      have e8 : a'.eval (.tmp 8) = .pointer (some ⟨b, off + i * 65 + 1, none⟩) := KS_val (hall 3 _ 8 rfl rfl) rfl
      have e9 : a'.eval (.tmp 9) = HV x.1 := KS_val (hall 4 _ 9 rfl rfl) rfl
      have e10 : a'.eval (.tmp 10) = .int .i64 (q : Int) := KS_val (hall 5 _ 10 rfl rfl) rfl
      have e11 : a'.eval (.tmp 11) = .int .i64 1 := KS_val (hall 6 _ 11 rfl rfl) rfl
      have e12 : a'.eval (.tmp 12) = .bool true := KS_val (hall 7 _ 12 rfl rfl) rfl
      have e4 : a'.eval (.tmp 4) = .bool true := KS_val (hall 8 _ 4 rfl rfl) rfl
      have ha := act_puts 13 rfl hsz hdf hk [5, 6, 7, 8, 9, 10, 11, 12, 4] (by decide +kernel)
      simp only [puts, List.foldl_cons, List.foldl_nil, e5, e6, e7, e8, e9, e10, e11, e12, e4] at ha
      simp only [Act.put, List.setIfInBounds_toArray, List.set_cons_succ, List.set_cons_zero] at ha
      clear hall hk hsz hdf e5 e6 e7 e8 e9 e10 e11 e12 e4
      subst ha
      go_wp2_with fail
      go_ret
      exact ⟨rfl, hg⟩
  | false =>
    refine wp_region_inv Tryd.mixed (KS (fun i_ => match i_ with | 0 => .val (.slice (some ⟨b, off, none⟩) n cap) | 1 => .val (.int .i64 (i : Int)) | 2 => .val (.pointer (some ⟨b, off + i * 65, none⟩)) | 3 => .val (.pointer (some ⟨b, off + i * 65 + 1, none⟩)) | 4 => .val (HV x.1) | 5 => .val (.int .i64 (q : Int)) | 6 => .val (.int .i64 0) | 7 | 8 => .val (.bool false) | _ => .free)) 13 rfl (by decide +kernel) (KS_mono _) ?_ ?_
    · refine AllFrom.cons (fun a' w' hg hk hd => ?_) (AllFrom.cons (fun a' w' hg hk hd => ?_) (AllFrom.cons (fun a' w' hg hk hd => ?_) (AllFrom.cons (fun a' w' hg hk hd => ?_) (AllFrom.cons (fun a' w' hg hk hd => ?_) (AllFrom.cons (fun a' w' hg hk hd => ?_) (AllFrom.cons (fun a' w' hg hk hd => ?_) (AllFrom.cons (fun a' w' hg hk hd => ?_) (AllFrom.cons (fun a' w' hg hk hd => ?_) AllFrom.nil))))))))
      · skip
        intro Q
        have e1 : a'.eval (.tmp 1) = .pointer (some ⟨Bc, 0, none⟩) := hk.at 1 (by decide +kernel)
        have hc := (hg.cell (p := ⟨Bc, 0, none⟩) hbc).trans HC.out
        clear hd hk
        exact wp_value (.slice (some ⟨b, off, none⟩) n cap) (by simp only [execOp, e1]; go_simp) (KS_mkv rfl rfl)
      · skip
        intro Q
        have e0 : a'.eval (.tmp 0) = .int .i64 (i : Int) := hk.at 0 (by decide +kernel)
        exact wp_value _ (by simp only [execOp, e0]; rfl) (KS_mkv rfl rfl)
      · skip
        intro Q
        have e5 : a'.eval (.tmp 5) = .slice (some ⟨b, off, none⟩) n cap := KS_val (hd.val 0 5 (by decide +kernel)) rfl
        have e6 : a'.eval (.tmp 6) = .int .i64 (i : Int) := KS_val (hd.val 1 6 (by decide +kernel)) rfl
        clear hd hk
        exact wp_value (.pointer (some ⟨b, off + i * 65, none⟩)) (by simp only [execOp, e5, e6]; go_simp) (KS_mkv rfl rfl)
      · skip
        intro Q
        have e7 : a'.eval (.tmp 7) = .pointer (some ⟨b, off + i * 65, none⟩) := KS_val (hd.val 2 7 (by decide +kernel)) rfl
        clear hd hk
        exact wp_value (.pointer (some ⟨b, off + i * 65 + 1, none⟩)) (by simp only [execOp, e7]; go_simp) (KS_mkv rfl rfl)
      · skip
        intro Q
        have e8 : a'.eval (.tmp 8) = .pointer (some ⟨b, off + i * 65 + 1, none⟩) := KS_val (hd.val 3 8 (by decide +kernel)) rfl
        exact wp_load_row 24 _ rfl _ _ e8 (By (x.1).1) _ (rangeAt_kept11 hrk hlb hg) Tryd.underlying24 rfl (Tryd.sizeH _) (KS_mkv rfl rfl)
      · skip
        intro Q
        have e2 : a'.eval (.tmp 2) = .pointer (some ⟨Bb, 0, none⟩) := hk.at 2 (by decide +kernel)
        have hc := (hg.cell (p := ⟨Bb, 0, none⟩) hbb).trans HS.out
        clear hd hk
        exact wp_value (.int .i64 (q : Int)) (by simp only [execOp, e2]; go_simp) (KS_mkv rfl rfl)
      · skip
        intro Q
        have e9 : a'.eval (.tmp 9) = HV x.1 := KS_val (hd.val 4 9 (by decide +kernel)) rfl
        have e10 : a'.eval (.tmp 10) = .int .i64 (q : Int) := KS_val (hd.val 5 10 (by decide +kernel)) rfl
        refine wp_call 38 _ (run_enter 38 _ _ rfl (by kernel_rfl)) ?_
        simp only [List.map_toArray, List.map_nil, List.map_cons, e9, e10]
        refine (CB.out _).mono ?_
        rintro e w5 ⟨rfl, hb5⟩
        exact ⟨_, rfl, KS_mkv rfl rfl, hb5⟩
      · skip
        intro Q
        have e11 : a'.eval (.tmp 11) = .int .i64 0 := KS_val (hd.val 6 11 (by decide +kernel)) rfl
        clear hd hk
        exact wp_value (.bool false) (by simp only [execOp, e11]; go_simp) (KS_mkv rfl rfl)
      · skip
        intro Q
        have e12 : a'.eval (.tmp 12) = .bool false := KS_val (hd.val 7 12 (by decide +kernel)) rfl
        exact wp_value _ (by simp only [execOp, e12]; rfl) (KS_mkv rfl rfl)
    · intro a' w3 hsz hdf hk hall hg
      have e5 : a'.eval (.tmp 5) = .slice (some ⟨b, off, none⟩) n cap := KS_val (hall 0 _ 5 rfl rfl) rfl
      have e6 : a'.eval (.tmp 6) = .int .i64 (i : Int) := KS_val (hall 1 _ 6 rfl rfl) rfl
      have e7 : a'.eval (.tmp 7) = .pointer (some ⟨b, off + i * 65, none⟩) := KS_val (hall 2 _ 7 rfl rfl) rfl
      have e8 : a'.eval (.tmp 8) = .pointer (some ⟨b, off + i * 65 + 1, none⟩) := KS_val (hall 3 _ 8 rfl rfl) rfl
      have e9 : a'.eval (.tmp 9) = HV x.1 := KS_val (hall 4 _ 9 rfl rfl) rfl
      have e10 : a'.eval (.tmp 10) = .int .i64 (q : Int) := KS_val (hall 5 _ 10 rfl rfl) rfl
      have e11 : a'.eval (.tmp 11) = .int .i64 0 := KS_val (hall 6 _ 11 rfl rfl) rfl
      have e12 : a'.eval (.tmp 12) = .bool false := KS_val (hall 7 _ 12 rfl rfl) rfl
      have e4 : a'.eval (.tmp 4) = .bool false := KS_val (hall 8 _ 4 rfl rfl) rfl
      have ha := act_puts 13 rfl hsz hdf hk [5, 6, 7, 8, 9, 10, 11, 12, 4] (by decide +kernel)
      simp only [puts, List.foldl_cons, List.foldl_nil, e5, e6, e7, e8, e9, e10, e11, e12, e4] at ha
      simp only [Act.put, List.setIfInBounds_toArray, List.set_cons_succ, List.set_cons_zero] at ha
      clear hall hk hsz hdf e5 e6 e7 e8 e9 e10 e11 e12 e4
      subst ha
      go_wp2_with fail
      go_ret
      exact ⟨rfl, hg⟩
set_option maxHeartbeats 2000000 in
set_option maxRecDepth 100000 in
theorem search_any {w : World} {a : Option Addr} {n cap : Nat} {L : List It} {Bc Bb q u : Nat} (h : RdG EN w (.slice a n cap) (L.map enI)) (hc : w.cell? ⟨Bc, 0, none⟩ = some (.slice a n cap)) (hs : w.cell? ⟨Bb, 0, none⟩ = some (.int .i64 (q : Int)))
    (hu : ∀ (i : Nat) (x : It), L[i]? = some x → bit x.1 q = decide (u ≤ i)) (hun : u ≤ n) (hn : n ≤ 4398046511104) :
    Calls Tryd.prog 65 #[.int .i64 (n : Int), .func (.func 66) #[] #[.pointer (some ⟨Bc, 0, none⟩), .pointer (some ⟨Bb, 0, none⟩)]] w fun e w' => e = .returned (.int .i64 (u : Int)) ∧ Below w.heap.size w w' := by
  have HL := hide h
  have hln : Hid (L.length = n) := (show _ = _ by have := h.len; rwa [List.length_map] at this)
  have HC := hide hc
  have HS := hide hs
  have HR := hide hu
  have hbc := World.block_lt_of_cell? _ _ hc
  have hbs := World.block_lt_of_cell? _ _ hs
  clear h hc hs hu
  go_enter Tryd.func65, Tryd.ntmps65
  go_wp2_with fail
  go_loopg [5, 6] n (fun g x y wr => ∃ lo hi : Nat, x = .int .i64 (lo : Int) ∧ y = .int .i64 (hi : Int) ∧ hi ≤ n ∧ hi - lo ≤ g ∧ Hid (lo ≤ u ∧ u ≤ hi) ∧ Hid (Below w.heap.size w wr))
  case atStart => exact ⟨0, n, rfl, rfl, Nat.le_refl _, by omega, ⟨Nat.zero_le _, hun⟩, Below.refl _ _⟩
  case round =>
    obtain ⟨lo, hi, rfl, rfl, hin, hg, HI, LR⟩ := hrel
    by_cases hlt : lo < hi
    · have q1 : (lo : Int) < (hi : Int) := by omega
      obtain ⟨m, HM⟩ : ∃ m, Hid ((lo + hi) / 2 = m) := ⟨_, rfl⟩
      have hm1 : lo ≤ m ∧ m < hi := by have := HM.out; omega
      have hmL : m < L.length := by rw [hln.out]; omega
      have hcall := above1_any (HL.out.kept LR.out) ((LR.out.cell (p := ⟨Bc, 0, none⟩) hbc).trans HC.out) ((LR.out.cell (p := ⟨Bb, 0, none⟩) hbs).trans HS.out) m hmL
      rw [HR.out m L[m] (List.getElem?_eq_getElem hmL)] at hcall
      have em : ((lo : Int) + (hi : Int)) / 2 = (m : Int) := by have := HM.out; omega
      have HCALL := hide hcall
      clear hcall hmL
      go_wp2_with fail
      refine HCALL.out.mono ?_
      rintro e w5 ⟨rfl, hb5⟩
      have L5 : Hid (Below w.heap.size w w5) := LR.out.trans (hb5.mono LR.out.size)
      clear hb5 HCALL
      by_cases hum : u ≤ m
      · rw [decide_eq_true hum]
        have I2 : Hid (lo ≤ u ∧ u ≤ m) := ⟨HI.out.1, hum⟩
        clear hum
        go_wp2_with fail
        go_roundg (m - lo)
        case measure => omega
        case rel => exact ⟨lo, m, rfl, rfl, by omega, Nat.le_refl _, I2, L5⟩
      · rw [decide_eq_false hum]
        have I2 : Hid (m + 1 ≤ u ∧ u ≤ hi) := ⟨by omega, HI.out.2⟩
        clear hum
        go_wp2_with fail
        go_roundg (hi - (m + 1))
        case measure => omega
        case rel => exact ⟨m + 1, hi, by go_num, rfl, by omega, Nat.le_refl _, I2, L5⟩
    · obtain rfl : hi = lo := by have := HI.out; omega
      have q1 : ¬ (hi : Int) < (hi : Int) := by omega
      have HU : Hid (u = hi) := (show _ = _ by have := HI.out; omega)
      go_wp2_with fail
      go_ret
      exact ⟨by rw [HU.out]; rfl, LR.out⟩
#print axioms above1_any
#print axioms search_any
end Go.Proofs.YtooffljimdklfaaDoor

/-
  member.above: what the call does.
-/
namespace Go.Proofs.YtooffljimdklfaaDoor
open Go.RowKit
theorem PtF.but {w w' : World} {D : Nat} {T : TypeId} {cs : List Value} (hD : Blk w D T cs) (hT : T ≠ 113) (hb : But D w w') : ∀ {n b : Nat} {L : List It}, PtF w n b L → PtF w' n b L
  | 0, _, _, h => h
  | n + 1, b, L, h => by
    have ne : ∀ {cs'}, Blk w b 113 cs' → b ≠ D := fun hB e => hT ((by rw [e] at hB; exact (hD.inj hB).1))
    rcases h with ⟨x, e, hB⟩ | ⟨h2, bl, br, hB, h3, h4⟩
    · exact .inl ⟨x, e, hB.but hb (ne hB)⟩
    · exact .inr ⟨h2, bl, br, hB.but hb (ne hB), h3.but hD hT hb, h4.but hD hT hb⟩
theorem Pt.but {w w' : World} {D b : Nat} {T : TypeId} {cs : List Value} {L : List It} (h : Pt w b L) (hD : Blk w D T cs) (hT : T ≠ 113) (hb : But D w w') : Pt w' b L := by
  obtain ⟨n, h⟩ := h
  exact ⟨n, h.but hD hT hb⟩
set_option maxHeartbeats 8000000 in
set_option maxRecDepth 100000 in
theorem above_n (n : Nat) : ∀ (L : List It) (v : Value) (w : World), RdG EN w v (L.map enI) → Srt L → L.length = n → 0 < n → n ≤ 1000000 → Tabs w → Calls Tryd.prog 50 #[v] w fun e w' => ∃ b, e = .returned (PT b) ∧ Pt w' b L ∧ Below w.heap.size w w' := by
  induction n using Nat.strongRecOn with
  | _ n ih =>
  intro L v w hr hs hL hpos hn hT
  have IH := hide ih
  have HR := hide hr
  obtain ⟨a, cp, rfl⟩ := hr.slice
  have hcp := hr.cap
  have HNL := hide hL
  rw [List.length_map, hL] at HR hr hcp ⊢
  have HSR := hide hs
  have HT := hide hT
  obtain ⟨N, HN⟩ : ∃ N, Hid (w.heap.size = N) := ⟨_, rfl⟩
  have h2 : 2 ≤ N := by rw [← HN.out]; exact hT.size
  obtain ⟨b, off, rfl, hlb0, hxa⟩ := hr.nth hpos
  obtain ⟨n1, hn1⟩ : ∃ z, z + 1 = n := ⟨n - 1, by omega⟩
  have hl0 : 0 < L.length := by rw [hL]; exact hpos
  have hl1 : n1 < L.length := by rw [hL]; omega
  have hq0 := hxa 0 (by rw [List.length_map]; exact hl0)
  have hq1 := hxa n1 (by rw [List.length_map]; exact hl1)
  rw [List.getElem_map] at hq0 hq1
  have HCB : Hid (cutB L = apart L[0].1 L[n1].1) := (show _ = _ by
    unfold cutB
    rw [List.head?_eq_getElem?, List.getLast?_eq_getElem?, hL, show n - 1 = n1 by omega, List.getElem?_eq_getElem hl0, List.getElem?_eq_getElem hl1])
  have HL1 : Hid (n = 1 → L = [L[0]]) := (show _ from fun h => by
    rw [h] at hL
    match L, hL with
    | [x], _ => rfl)
  obtain ⟨x0, hx0⟩ : ∃ z, L[0] = z := ⟨_, rfl⟩
  obtain ⟨x1, hx1⟩ : ∃ z, L[n1] = z := ⟨_, rfl⟩
  rw [hx0] at hq0 HCB HL1
  rw [hx1] at hq1 HCB
  clear hx0 hx1 hxa hr ih hL hs hT
  have hnn : (n : Int) = (n1 : Int) + 1 := by omega
  have hn1n : n1 < n := by omega
  have hi1 : (n1 : Int) < (n : Int) := by omega
  have hi0 : (0 : Int) < (n : Int) := by omega
  have HNN := hide hnn
  clear hn1 hnn
  rw [HN.out]
  go_enter Tryd.func50, Tryd.ntmps50
  go_upto_region 1 with fail
  obtain ⟨w1, hw1⟩ : ∃ z, z = w.alloc (.cells ([.slice (some ⟨b, off, none⟩) n cp]).toArray 105 (0, 0)) := ⟨_, rfl⟩
  change Code.wp _ _ _ _ (w.alloc (.cells ([.slice (some ⟨b, off, none⟩) n cp]).toArray 105 (0, 0)))
  rw [← hw1, HN.out]
  obtain ⟨b0, ln, sz1⟩ := box1 HN hw1
  clear hw1
  have B0 := hide b0
  have LL := hide ln
  have hlb : b < w1.heap.size := by have := ln.size; omega
  have hr0 : w1.rangeAt b off (EN.c (enI x0)) := by have := rangeAt_kept11 hq0 hlb0 (ln.mono (Nat.le_of_eq HN.out)); simpa using this
  have hr1 : w1.rangeAt b (off + n1 * 65) (EN.c (enI x1)) := rangeAt_kept11 hq1 hlb0 (ln.mono (Nat.le_of_eq HN.out))
  have hg1 : N ≤ w1.heap.size := by omega
  clear b0 ln sz1 hq0 hq1
  refine wp_region_cells Tryd.mixed (KS (fun i_ => match i_ with | 0 | 3 | 4 => .val (.slice (some ⟨b, off, none⟩) n cp) | 1 => .val (.pointer (some ⟨b, off, none⟩)) | 2 => .val (.agg (EN.c (enI x0)).toArray) | 5 => .val (.int .i64 (n : Int)) | 6 => .val (.int .i64 (n1 : Int)) | 7 => .val (.pointer (some ⟨b, off + n1 * 65, none⟩)) | 8 => .val (.agg (EN.c (enI x1)).toArray) | _ => .free)) [⟨9, 3, 11, 79, EN.c ze, EN.c (enI x0)⟩, ⟨10, 4, 12, 79, EN.c ze, EN.c (enI x1)⟩] 59 rfl (by decide +kernel) (KS_mono_val _ (fun i => by split <;> exact fun _ _ _ h => h)) (by intro c hc c' hc' e; simp only [List.mem_cons, List.not_mem_nil, or_false] at hc hc'; rcases hc with rfl | rfl <;> rcases hc' with rfl | rfl <;> first | rfl | (simp at e)) (by intro c hc c' hc' e; simp only [List.mem_cons, List.not_mem_nil, or_false] at hc hc'; rcases hc with rfl | rfl <;> rcases hc' with rfl | rfl <;> first | rfl | (simp at e)) (by intro c hc; simp only [List.mem_cons, List.not_mem_nil, or_false] at hc; rcases hc with rfl | rfl <;> rfl) ?_ ?_
  · refine AllFrom.cons ?_ (AllFrom.cons ?_ (AllFrom.cons ?_ (AllFrom.cons ?_ (AllFrom.cons ?_ (AllFrom.cons ?_ (AllFrom.cons ?_ (AllFrom.cons ?_ (AllFrom.cons ?_ (AllFrom.cons ?_ (AllFrom.cons ?_ (AllFrom.cons ?_ (AllFrom.cons ?_ AllFrom.nil))))))))))))
    · skip
      refine .val rfl (notI rfl) (notS rfl) (fun a' w' hb hk hd Q => ?_)
      have e1 : a'.eval (.tmp 1) = .pointer (some ⟨N, 0, none⟩) := hk.at 1 (by decide +kernel)
      have hc := (B0.out.kept hb).cell (j := 0) rfl
      clear hd hk
      exact wp_value (.slice (some ⟨b, off, none⟩) n cp) (by simp only [execOp, e1]; go_simp) (KS_mkv rfl rfl)
    · skip
      refine .val rfl (notI rfl) (notS rfl) (fun a' w' hb hk hd Q => ?_)
      have e8 : a'.eval (.tmp 8) = .slice (some ⟨b, off, none⟩) n cp := KS_val (hd 0 8 (by decide +kernel) (notI rfl)) rfl
      clear hd hk
      exact wp_value (.pointer (some ⟨b, off, none⟩)) (by simp only [execOp, e8]; go_simp) (KS_mkv rfl rfl)
    · skip
      refine .val rfl (notI rfl) (notS rfl) (fun a' w' hb hk hd Q => ?_)
      have e9 : a'.eval (.tmp 9) = .pointer (some ⟨b, off, none⟩) := KS_val (hd 1 9 (by decide +kernel) (notI rfl)) rfl
      exact wp_load_row 79 _ rfl _ _ e9 (EN.c (enI x0)) _ (rangeAt_kept11 hr0 hlb hb) Tryd.underlying79 rfl (Tryd.sizeE _) (KS_mkv rfl rfl)
    · skip
      refine .val rfl (notI rfl) (notS rfl) (fun a' w' hb hk hd Q => ?_)
      have e1 : a'.eval (.tmp 1) = .pointer (some ⟨N, 0, none⟩) := hk.at 1 (by decide +kernel)
      have hc := (B0.out.kept hb).cell (j := 0) rfl
      clear hd hk
      exact wp_value (.slice (some ⟨b, off, none⟩) n cp) (by simp only [execOp, e1]; go_simp) (KS_mkv rfl rfl)
    · skip
      refine .val rfl (notI rfl) (notS rfl) (fun a' w' hb hk hd Q => ?_)
      have e1 : a'.eval (.tmp 1) = .pointer (some ⟨N, 0, none⟩) := hk.at 1 (by decide +kernel)
      have hc := (B0.out.kept hb).cell (j := 0) rfl
      clear hd hk
      exact wp_value (.slice (some ⟨b, off, none⟩) n cp) (by simp only [execOp, e1]; go_simp) (KS_mkv rfl rfl)
    · skip
      refine .val rfl (notI rfl) (notS rfl) (fun a' w' hb hk hd Q => ?_)
      have e12 : a'.eval (.tmp 12) = .slice (some ⟨b, off, none⟩) n cp := KS_val (hd 4 12 (by decide +kernel) (notI rfl)) rfl
      clear hd hk
      exact wp_value (.int .i64 (n : Int)) (by simp only [execOp, resolve, invoke, builtin, Sem.run_bind, Sem.run_pure, Result.andThen_ok, List.map_toArray, List.map_cons, List.map_nil, e12]; go_simp) (KS_mkv rfl rfl)
    · skip
      refine .val rfl (notI rfl) (notS rfl) (fun a' w' hb hk hd Q => ?_)
      have e13 : a'.eval (.tmp 13) = .int .i64 (n : Int) := KS_val (hd 5 13 (by decide +kernel) (notI rfl)) rfl
      clear hd hk
      exact wp_value (.int .i64 (n1 : Int)) (by simp only [execOp, e13]; rw [HNN.out]; go_simp; first | done | omega | (rw [IntKind.wrap_i64]; omega)) (KS_mkv rfl rfl)
    · skip
      refine .val rfl (notI rfl) (notS rfl) (fun a' w' hb hk hd Q => ?_)
      have e11 : a'.eval (.tmp 11) = .slice (some ⟨b, off, none⟩) n cp := KS_val (hd 3 11 (by decide +kernel) (notI rfl)) rfl
      have e14 : a'.eval (.tmp 14) = .int .i64 (n1 : Int) := KS_val (hd 6 14 (by decide +kernel) (notI rfl)) rfl
      clear hd hk
      exact wp_value (.pointer (some ⟨b, off + n1 * 65, none⟩)) (by simp only [execOp, e11, e14]; go_simp) (KS_mkv rfl rfl)
    · skip
      refine .val rfl (notI rfl) (notS rfl) (fun a' w' hb hk hd Q => ?_)
      have e15 : a'.eval (.tmp 15) = .pointer (some ⟨b, off + n1 * 65, none⟩) := KS_val (hd 7 15 (by decide +kernel) (notI rfl)) rfl
      exact wp_load_row 79 _ rfl _ _ e15 (EN.c (enI x1)) _ (rangeAt_kept11 hr1 hlb hb) Tryd.underlying79 rfl (Tryd.sizeE _) (KS_mkv rfl rfl)
    · skip
      refine .new rfl _ (List.Mem.head _) rfl (notS rfl) rfl (fun a' w' => ?_)
      simp only [execOp]; go_simp; rfl
    · skip
      refine .new rfl _ (List.Mem.tail _ (List.Mem.head _)) rfl (notS rfl) rfl (fun a' w' => ?_)
      simp only [execOp]; go_simp; rfl
    · skip
      refine .put rfl _ (List.Mem.head _) (notI rfl) rfl rfl (.tmp 10) rfl (by kernel_rfl) (fun a' w' hb hk hd => ?_) (by rw [EN_len, EN_len]) (Tryd.sizeE _) (EN.one _)
      have e10 : a'.eval (.tmp 10) = .agg (EN.c (enI x0)).toArray := KS_val (hd 2 10 (by decide +kernel) (notI rfl)) rfl
      exact e10
    · skip
      refine .put rfl _ (List.Mem.tail _ (List.Mem.head _)) (notI rfl) rfl rfl (.tmp 16) rfl (by kernel_rfl) (fun a' w' hb hk hd => ?_) (by rw [EN_len, EN_len]) (Tryd.sizeE _) (EN.one _)
      have e16 : a'.eval (.tmp 16) = .agg (EN.c (enI x1)).toArray := KS_val (hd 8 16 (by decide +kernel) (notI rfl)) rfl
      exact e16
  · intro a' w3 hsz hdf hk hall hb3 hBB
    obtain ⟨BF, hB1, -⟩ := hBB
    obtain ⟨E3, hleh, BH⟩ := hB1 _ (List.Mem.head _) (show (9 : Nat) < 13 by decide) (show (11 : Nat) < 13 by decide)
    obtain ⟨E4, hleg, BG⟩ := hB1 _ (List.Mem.tail _ (List.Mem.head _)) (show (10 : Nat) < 13 by decide) (show (12 : Nat) < 13 by decide)
    simp only at E3 hleh BH
    simp only at E4 hleg BG
    clear hB1
    generalize BF 9 = eh at E3 hleh BH
    generalize BF 10 = eg at E4 hleg BG
    have e8 : a'.eval (.tmp 8) = .slice (some ⟨b, off, none⟩) n cp := KS_val (hall 0 _ 8 rfl (notI rfl) rfl) rfl
    have e9 : a'.eval (.tmp 9) = .pointer (some ⟨b, off, none⟩) := KS_val (hall 1 _ 9 rfl (notI rfl) rfl) rfl
    have e10 : a'.eval (.tmp 10) = .agg (EN.c (enI x0)).toArray := KS_val (hall 2 _ 10 rfl (notI rfl) rfl) rfl
    have e11 : a'.eval (.tmp 11) = .slice (some ⟨b, off, none⟩) n cp := KS_val (hall 3 _ 11 rfl (notI rfl) rfl) rfl
    have e12 : a'.eval (.tmp 12) = .slice (some ⟨b, off, none⟩) n cp := KS_val (hall 4 _ 12 rfl (notI rfl) rfl) rfl
    have e13 : a'.eval (.tmp 13) = .int .i64 (n : Int) := KS_val (hall 5 _ 13 rfl (notI rfl) rfl) rfl
    have e14 : a'.eval (.tmp 14) = .int .i64 (n1 : Int) := KS_val (hall 6 _ 14 rfl (notI rfl) rfl) rfl
    have e15 : a'.eval (.tmp 15) = .pointer (some ⟨b, off + n1 * 65, none⟩) := KS_val (hall 7 _ 15 rfl (notI rfl) rfl) rfl
    have e16 : a'.eval (.tmp 16) = .agg (EN.c (enI x1)).toArray := KS_val (hall 8 _ 16 rfl (notI rfl) rfl) rfl
    have ha := act_puts 59 rfl hsz hdf hk [8, 9, 10, 11, 12, 13, 14, 15, 16, 3, 4] (by decide +kernel)
    simp only [puts, List.foldl_cons, List.foldl_nil, e8, e9, e10, e11, e12, e13, e14, e15, e16, E3, E4] at ha
    simp only [Act.put, List.setIfInBounds_toArray, List.set_cons_succ, List.set_cons_zero] at ha
    clear hall hk hsz hdf e8 e9 e10 e11 e12 e13 e14 e15 e16 E3 E4
    subst ha
    have BX := hide BH
    have BY := hide BG
    have BS := hide (B0.out.kept hb3)
    have LL_ : Hid (Below N w w3) := (show _ from LL.out.trans (Below.mono hb3 hg1))
    have GG : Hid (N ≤ w3.heap.size) := (show _ ≤ _ from Nat.le_trans hg1 hb3.size)
    clear LL B0 BH BG hb3 hr0 hr1 hlb hleh hleg
    have LL := LL_
    clear LL_
    have TT := hide (HT.out.kept (LL.out.mono h2))
    have cS := BS.out.cell (j := 0) rfl
    by_cases h1 : n = 1
    · subst h1
      replace HL1 := hide (HL1.out rfl)
      go_upto_region 3 with fail
      refine wp_region_inv Tryd.mixed (KS (fun i_ => match i_ with | 0 | 2 => .val (.agg (EN.c (enI x0)).toArray) | 1 => .val (HV (itH x0.1 x0.2)) | 3 => .val (.agg (PaC (itH x0.1 x0.2) (enI x0) 0 (.pointer none) (.pointer none)).toArray) | 4 | 5 => .of (fun w v_ => ∃ b_, v_ = PT b_ ∧ Blk w b_ 113 (PaC (itH x0.1 x0.2) (enI x0) 0 (.pointer none) (.pointer none))) (fun _ _ _ hg ⟨b_, e, h2⟩ => ⟨b_, e, h2.kept hg⟩) | _ => .free)) 59 rfl (by decide +kernel) (KS_mono _) ?_ ?_
      · refine AllFrom.cons (fun a' w' hg hk hd => ?_) (AllFrom.cons (fun a' w' hg hk hd => ?_) (AllFrom.cons (fun a' w' hg hk hd => ?_) (AllFrom.cons (fun a' w' hg hk hd => ?_) (AllFrom.cons (fun a' w' hg hk hd => ?_) (AllFrom.cons (fun a' w' hg hk hd => ?_) AllFrom.nil)))))
        · skip
          intro Q
          have e3 : a'.eval (.tmp 3) = .pointer (some ⟨eh, 0, none⟩) := hk.at 3 (by decide +kernel)
          exact wp_load_row 79 _ rfl _ _ e3 (EN.c (enI x0)) _ ((BX.out.kept hg).range0) Tryd.underlying79 rfl (Tryd.sizeE _) (KS_mkv rfl rfl)
        · skip
          intro Q
          have e20 : a'.eval (.tmp 20) = .agg (EN.c (enI x0)).toArray := KS_val (hd.val 0 20 (by decide +kernel)) rfl
          refine wp_call 35 _ (run_enter 35 _ _ rfl (by kernel_rfl)) ?_
          simp only [List.map_toArray, List.map_nil, List.map_cons, e20]
          refine (eroot_any (enI x0) _ (TT.out.gr hg)).mono ?_
          rintro e w5 ⟨rfl, hb5⟩
          exact ⟨_, rfl, KS_mkv rfl rfl, hb5⟩
        · skip
          intro Q
          have e3 : a'.eval (.tmp 3) = .pointer (some ⟨eh, 0, none⟩) := hk.at 3 (by decide +kernel)
          exact wp_load_row 79 _ rfl _ _ e3 (EN.c (enI x0)) _ ((BX.out.kept hg).range0) Tryd.underlying79 rfl (Tryd.sizeE _) (KS_mkv rfl rfl)
        · skip
          intro Q
          have e21 : a'.eval (.tmp 21) = HV (itH x0.1 x0.2) := KS_val (hd.val 1 21 (by decide +kernel)) rfl
          have e22 : a'.eval (.tmp 22) = .agg (EN.c (enI x0)).toArray := KS_val (hd.val 2 22 (by decide +kernel)) rfl
          exact wp_value (.agg (PaC (itH x0.1 x0.2) (enI x0) 0 (.pointer none) (.pointer none)).toArray) (by simp only [execOp, List.map_toArray, List.map_cons, List.map_nil, e21, e22, Sem.run_bind, Sem.run_pure]; exact congrArg (fun r => Result.andThen r _) (build_leaf (itH x0.1 x0.2) (enI x0) _)) (KS_mkv rfl rfl)
        · skip
          intro Q
          have e23 : a'.eval (.tmp 23) = .agg (PaC (itH x0.1 x0.2) (enI x0) 0 (.pointer none) (.pointer none)).toArray := KS_val (hd.val 3 23 (by decide +kernel)) rfl
          exact wp_grow _ _ (by simp only [execOp, e23]; go_simp) ((Below.refl _ _).alloc (Nat.le_refl _) _) (KS_mko rfl ⟨_, rfl, Blk.new w' 113 (PaC (itH x0.1 x0.2) (enI x0) 0 (.pointer none) (.pointer none))⟩)
        · skip
          intro Q
          have r24 := KS_of (hd.val 4 24 (by decide +kernel)) rfl
          exact wp_value (a'.eval (.tmp 24)) (by simp only [execOp]; rfl) (KS_mko rfl r24)
      · intro a' w4 hsz hdf hk hall hg
        have e20 : a'.eval (.tmp 20) = .agg (EN.c (enI x0)).toArray := KS_val (hall 0 _ 20 rfl rfl) rfl
        have e21 : a'.eval (.tmp 21) = HV (itH x0.1 x0.2) := KS_val (hall 1 _ 21 rfl rfl) rfl
        have e22 : a'.eval (.tmp 22) = .agg (EN.c (enI x0)).toArray := KS_val (hall 2 _ 22 rfl rfl) rfl
        have e23 : a'.eval (.tmp 23) = .agg (PaC (itH x0.1 x0.2) (enI x0) 0 (.pointer none) (.pointer none)).toArray := KS_val (hall 3 _ 23 rfl rfl) rfl
        have r24 : (fun w v_ => ∃ b_, v_ = PT b_ ∧ Blk w b_ 113 (PaC (itH x0.1 x0.2) (enI x0) 0 (.pointer none) (.pointer none))) w4 (a'.eval (.tmp 24)) := KS_of (hall 4 _ 24 rfl rfl) rfl
        obtain ⟨x24, hx24⟩ : ∃ v, a'.eval (.tmp 24) = v := ⟨_, rfl⟩
        rw [hx24] at r24
        have r2 : (fun w v_ => ∃ b_, v_ = PT b_ ∧ Blk w b_ 113 (PaC (itH x0.1 x0.2) (enI x0) 0 (.pointer none) (.pointer none))) w4 (a'.eval (.tmp 2)) := KS_of (hall 5 _ 2 rfl rfl) rfl
        obtain ⟨x2, hx2⟩ : ∃ v, a'.eval (.tmp 2) = v := ⟨_, rfl⟩
        rw [hx2] at r2
        have ha := act_puts 59 rfl hsz hdf hk [20, 21, 22, 23, 24, 2] (by decide +kernel)
        simp only [puts, List.foldl_cons, List.foldl_nil, e20, e21, e22, e23, hx24, hx2] at ha
        simp only [Act.put, List.setIfInBounds_toArray, List.set_cons_succ, List.set_cons_zero] at ha
        clear hall hk hsz hdf e20 e21 e22 e23 hx24 hx2
        subst ha
        obtain ⟨b4, e4, hB4⟩ := r2
        subst e4
        have LL4 : Hid (Below N w w4) := (show _ from LL.out.trans (hg.mono GG.out))
        have HPT : Hid (Pt w4 b4 L) := (show Pt _ _ _ by rw [HL1.out]; exact Pt.one hB4)
        clear hg hB4 r24
        go_wp2_with fail
        go_ret
        exact ⟨b4, rfl, HPT.out, LL4.out⟩
    have h22 : 2 ≤ n := by omega
    have hcut := HSR.out.cut (by rw [HNL.out]; exact h22)
    rw [HNL.out] at hcut
    have HROOT := hide (rootP_two HSR.out (by rw [HNL.out]; exact h22))
    have HAT := hide (fun (i : Nat) (x : It) (h : L[i]? = some x) => HSR.out.cut_at (by rw [HNL.out]; exact h22) h)
    obtain ⟨q, HQ⟩ : ∃ q, Hid (cutB L = q) := ⟨_, rfl⟩
    obtain ⟨c, HC⟩ : ∃ c, Hid (cutN L = c) := ⟨_, rfl⟩
    rw [HC.out] at hcut HROOT HAT
    rw [HQ.out] at HROOT HAT HCB
    have CA := hide (fun w => kApart_any x0.1 x1.1 w)
    rw [← HCB.out] at CA
    have q1 : ¬ (n : Int) = 1 := by omega
    have rk0 : w3.rangeAt eh 1 (By x0.1.1) := ENkey BX.out.range0
    have rk1 : w3.rangeAt eg 1 (By x1.1.1) := ENkey BY.out.range0
    clear h1 HL1
    go_upto_region 5 with (first
      | (refine wpList_load_mid rfl 24 _ rfl eh 1 rfl (By x0.1.1) _ rk0 Tryd.underlying24 rfl (Tryd.sizeH _) ?_)
      | (refine wpList_load_mid rfl 24 _ rfl eg 1 rfl (By x1.1.1) _ rk1 Tryd.underlying24 rfl (Tryd.sizeH _) ?_)
      | (go_at_call 59; refine (CA.out _).mono ?_; rintro e w4 ⟨rfl, hb4⟩; have BS4 := hide (BS.out.kept hb4); have LL4 : Hid (Below N w w4) := (show _ from LL.out.trans (hb4.mono GG.out)); have GG4 : Hid (N ≤ w4.heap.size) := (show _ ≤ _ from Nat.le_trans GG.out hb4.size); clear hb4)
      | fail)
    obtain ⟨w5, hw5⟩ : ∃ z, z = w4.alloc (.cells [.int .i64 (q : Int)].toArray 3 (0, 0)) := ⟨_, rfl⟩
    change Code.wp _ _ _ _ (w4.alloc (.cells [.int .i64 (q : Int)].toArray 3 (0, 0)))
    obtain ⟨E, HE⟩ : ∃ E, Hid (w4.heap.size = E) := ⟨_, rfl⟩
    rw [← hw5, HE.out]
    obtain ⟨bz, lz, szz⟩ := box1 HE hw5
    clear hw5
    have lz4 : Below w4.heap.size w4 w5 := by rw [HE.out]; exact lz
    have BZ5 := hide bz
    have BS5 := hide (BS4.out.kept lz4)
    have LL5 : Hid (Below N w w5) := (show _ from LL4.out.trans (lz4.mono GG4.out))
    have GG5 : Hid (N ≤ w5.heap.size) := (show _ ≤ _ from Nat.le_trans GG4.out lz4.size)
    clear bz lz szz lz4 BS BX BY LL GG TT cS rk0 rk1 BS4 LL4 GG4 CA
    have R5 := hide (HR.out.kept (LL5.out.mono (Nat.le_of_eq HN.out)))
    have cS := BS5.out.cell (j := 0) rfl
    have cZ := BZ5.out.cell (j := 0) rfl
    have CS := hide (search_any R5.out cS cZ HAT.out (by omega) (by omega))
    go_upto_region 6 with (first
      | (go_at_call 65; refine CS.out.mono ?_; rintro e w6 ⟨rfl, hb6⟩; have BS := hide (BS5.out.kept hb6); have BZ := hide (BZ5.out.kept hb6); have LL : Hid (Below N w w6) := (show _ from LL5.out.trans (hb6.mono GG5.out)); have GG : Hid (N ≤ w6.heap.size) := (show _ ≤ _ from Nat.le_trans GG5.out hb6.size); have R6 := hide (R5.out.kept hb6); clear hb6)
      | fail)
    clear BS5 BZ5 LL5 GG5 R5 cS cZ CS HAT
    have TT := hide (HT.out.kept (LL.out.mono h2))
    obtain ⟨hs1, hs1r⟩ := slice_G_to (E := EN) (P := Tryd.prog) Tryd.underlying105 Tryd.sizeE' (some ⟨b, off, none⟩) n cp c (by omega) (by omega)
    obtain ⟨a2, hs2, -, hs2r⟩ := slice_G (E := EN) (P := Tryd.prog) Tryd.underlying105 Tryd.sizeE' (some ⟨b, off, none⟩) n cp c (by omega) (by omega)
    have RT := hide (hs1r _ _ R6.out)
    have RD := hide (hs2r _ _ R6.out)
    rw [← List.map_take] at RT
    rw [← List.map_drop] at RD
    have HTL : Hid ((L.take c).length = c) := (show _ = _ by rw [List.length_take, HNL.out]; omega)
    have HDL : Hid ((L.drop c).length = n - c) := (show _ = _ by rw [List.length_drop, HNL.out])
    have HST : Hid (Srt (L.take c)) := HSR.out.sub (List.take_sublist _ _)
    have HSD : Hid (Srt (L.drop c)) := HSR.out.sub (List.drop_sublist _ _)
    clear hs1r hs2r R6
    refine wp_region_tails Tryd.mixed (KS (fun i_ => match i_ with | 0 | 4 => .val (.slice (some ⟨b, off, none⟩) n cp) | 1 | 5 => .val (.int .i64 (c : Int)) | 2 => .val (.slice (some ⟨b, off, none⟩) c cp) | 3 => .of (fun w v_ => ∃ b_, v_ = PT b_ ∧ Pt w b_ (L.take c)) (fun _ _ _ hg ⟨b_, e, h2⟩ => ⟨b_, e, h2.kept hg⟩) | 6 => .val (.slice a2 (n - c) (cp - c)) | 7 => .of (fun w v_ => ∃ b_, v_ = PT b_ ∧ Pt w b_ (L.drop c)) (fun _ _ _ hg ⟨b_, e, h2⟩ => ⟨b_, e, h2.kept hg⟩) | 8 => .of (fun w v_ => ∃ bl_ br_, v_ = .agg [PT bl_, PT br_].toArray ∧ Pt w bl_ (L.take c) ∧ Pt w br_ (L.drop c)) (fun _ _ _ hg ⟨bl_, br_, e, h2, h3⟩ => ⟨bl_, br_, e, h2.kept hg, h3.kept hg⟩) | 9 => .of (fun w v_ => ∃ b_, v_ = PT b_ ∧ N ≤ b_ ∧ Blk w b_ 111 [.pointer none, .pointer none]) (fun _ _ _ hg ⟨b_, e, h2, h3⟩ => ⟨b_, e, h2, h3.kept hg⟩) | _ => .free)) 59 rfl (by decide +kernel) 10 (by decide) (by decide +kernel) (KS_mono _) ?_ ?_
    · refine AllFrom.cons ⟨rfl, fun a' w' hg hk hd => ?_⟩ (AllFrom.cons ⟨rfl, fun a' w' hg hk hd => ?_⟩ (AllFrom.cons ⟨rfl, fun a' w' hg hk hd => ?_⟩ (AllFrom.cons ⟨rfl, fun a' w' hg hk hd => ?_⟩ (AllFrom.cons ⟨rfl, fun a' w' hg hk hd => ?_⟩ (AllFrom.cons ⟨rfl, fun a' w' hg hk hd => ?_⟩ (AllFrom.cons ⟨rfl, fun a' w' hg hk hd => ?_⟩ (AllFrom.cons ⟨rfl, fun a' w' hg hk hd => ?_⟩ (AllFrom.cons ⟨rfl, fun a' w' hg hk hd => ?_⟩ (AllFrom.cons ⟨rfl, fun a' w' hg hk hd => ?_⟩ AllFrom.nil)))))))))
      · skip
        intro Q
        have e1 : a'.eval (.tmp 1) = .pointer (some ⟨N, 0, none⟩) := hk.at 1 (by decide +kernel)
        have hc := (BS.out.kept hg).cell (j := 0) rfl
        clear hd hk
        exact wp_value (.slice (some ⟨b, off, none⟩) n cp) (by simp only [execOp, e1]; go_simp) (KS_mkv rfl rfl)
      · skip
        intro Q
        have e6 : a'.eval (.tmp 6) = .int .i64 (c : Int) := hk.at 6 (by decide +kernel)
        exact wp_value _ (by simp only [execOp, e6]; rfl) (KS_mkv rfl rfl)
      · skip
        intro Q
        have e34 : a'.eval (.tmp 34) = .slice (some ⟨b, off, none⟩) n cp := KS_val (hd.val 0 34 (by decide +kernel)) rfl
        have e35 : a'.eval (.tmp 35) = .int .i64 (c : Int) := KS_val (hd.val 1 35 (by decide +kernel)) rfl
        exact wp_value _ (by simp only [execOp, e34, e35, hs1, Sem.run_bind, Result.andThen_ok, Option.map_none, Option.map_some]; rfl) (KS_mkv rfl rfl)
      · skip
        intro Q
        have e36 : a'.eval (.tmp 36) = .slice (some ⟨b, off, none⟩) c cp := KS_val (hd.val 2 36 (by decide +kernel)) rfl
        refine wp_call 50 _ (run_enter 50 _ _ rfl (by kernel_rfl)) ?_
        simp only [List.map_toArray, List.map_nil, List.map_cons, e36]
        refine (IH.out c (by omega) (L.take c) _ _ (RT.out.kept hg) HST.out HTL.out (by omega) (by omega) (TT.out.gr hg)).mono ?_
        rintro e w5 ⟨b5, rfl, t5, hb5⟩
        exact ⟨_, rfl, KS_mko rfl ⟨b5, rfl, t5⟩, hb5⟩
      · skip
        intro Q
        have e1 : a'.eval (.tmp 1) = .pointer (some ⟨N, 0, none⟩) := hk.at 1 (by decide +kernel)
        have hc := (BS.out.kept hg).cell (j := 0) rfl
        clear hd hk
        exact wp_value (.slice (some ⟨b, off, none⟩) n cp) (by simp only [execOp, e1]; go_simp) (KS_mkv rfl rfl)
      · skip
        intro Q
        have e6 : a'.eval (.tmp 6) = .int .i64 (c : Int) := hk.at 6 (by decide +kernel)
        exact wp_value _ (by simp only [execOp, e6]; rfl) (KS_mkv rfl rfl)
      · skip
        intro Q
        have e38 : a'.eval (.tmp 38) = .slice (some ⟨b, off, none⟩) n cp := KS_val (hd.val 4 38 (by decide +kernel)) rfl
        have e39 : a'.eval (.tmp 39) = .int .i64 (c : Int) := KS_val (hd.val 5 39 (by decide +kernel)) rfl
        exact wp_value _ (by simp only [execOp, e38, e39, hs2, Sem.run_bind, Result.andThen_ok, Option.map_none, Option.map_some]; rfl) (KS_mkv rfl rfl)
      · skip
        intro Q
        have e40 : a'.eval (.tmp 40) = .slice a2 (n - c) (cp - c) := KS_val (hd.val 6 40 (by decide +kernel)) rfl
        refine wp_call 50 _ (run_enter 50 _ _ rfl (by kernel_rfl)) ?_
        simp only [List.map_toArray, List.map_nil, List.map_cons, e40]
        refine (IH.out (n - c) (by omega) (L.drop c) _ _ (RD.out.kept hg) HSD.out HDL.out (by omega) (by omega) (TT.out.gr hg)).mono ?_
        rintro e w5 ⟨b5, rfl, t5, hb5⟩
        exact ⟨_, rfl, KS_mko rfl ⟨b5, rfl, t5⟩, hb5⟩
      · skip
        intro Q
        have r37 := KS_of (hd.val 3 37 (by decide +kernel)) rfl
        have r41 := KS_of (hd.val 7 41 (by decide +kernel)) rfl
        obtain ⟨bl, el, hl⟩ := r37
        obtain ⟨br, er, hr⟩ := r41
        exact wp_value (.agg #[PT bl, PT br]) (by simp only [execOp, List.map_toArray, List.map_cons, List.map_nil, el, er, Sem.run_bind, Sem.run_pure]; exact congrArg (fun r => Result.andThen r _) (build_sides _ _ _)) (KS_mko rfl ⟨bl, br, rfl, hl, hr⟩)
      · skip
        intro Q
        exact wp_grow _ _ (by simp only [execOp]; go_simp) ((Below.refl _ _).alloc (Nat.le_refl _) _) (KS_mko rfl ⟨_, rfl, Nat.le_trans GG.out hg.size, Blk.new w' 111 [.pointer none, .pointer none]⟩)
    · intro a' w6 hsz hdf hk hall hg
      have e34 : a'.eval (.tmp 34) = .slice (some ⟨b, off, none⟩) n cp := KS_val (hall 0 _ 34 (by decide) rfl rfl) rfl
      have e35 : a'.eval (.tmp 35) = .int .i64 (c : Int) := KS_val (hall 1 _ 35 (by decide) rfl rfl) rfl
      have e36 : a'.eval (.tmp 36) = .slice (some ⟨b, off, none⟩) c cp := KS_val (hall 2 _ 36 (by decide) rfl rfl) rfl
      have e38 : a'.eval (.tmp 38) = .slice (some ⟨b, off, none⟩) n cp := KS_val (hall 4 _ 38 (by decide) rfl rfl) rfl
      have e39 : a'.eval (.tmp 39) = .int .i64 (c : Int) := KS_val (hall 5 _ 39 (by decide) rfl rfl) rfl
      have e40 : a'.eval (.tmp 40) = .slice a2 (n - c) (cp - c) := KS_val (hall 6 _ 40 (by decide) rfl rfl) rfl
      obtain ⟨b37, e37, -⟩ := KS_of (hall 3 _ 37 (by decide) rfl rfl) rfl
      obtain ⟨b41, e41, -⟩ := KS_of (hall 7 _ 41 (by decide) rfl rfl) rfl
      obtain ⟨bl, br, e42, pl, pr⟩ := KS_of (hall 8 _ 42 (by decide) rfl rfl) rfl
      obtain ⟨D, e7, hND, BD⟩ := KS_of (hall 9 _ 7 (by decide) rfl rfl) rfl
      refine ⟨rfl, ?_⟩
      refine wp_store_blk 111 (.tmp 7) (.tmp 42) rfl D [.pointer none, .pointer none] [PT bl, PT br] 111 e7 e42 BD rfl (by kernel_rfl) (fun u hu => by simp only [List.mem_cons, List.not_mem_nil, or_false] at hu; rcases hu with rfl | rfl <;> rfl) ?_
      intro w7 hb7 hu7
      refine ⟨_, rfl, ?_⟩
      have PL := hide (pl.but BD (by decide) hu7)
      have PR := hide (pr.but BD (by decide) hu7)
      have BQ := hide hb7
      have hND2 : N ≤ w6.heap.size := Nat.le_trans GG.out hg.size
      have LL7 : Hid (Below N w w7) := (show _ from (LL.out.trans (hg.mono GG.out)).trans (hu7.below hND hND2))
      have GG7 : Hid (N ≤ w7.heap.size) := (show _ ≤ _ from Nat.le_trans hND2 hu7.size)
      have BZ7 := hide ((BZ.out.kept hg).but hu7 (fun e => by have := ((BZ.out.kept hg).inj (by rw [e]; exact BD)).1; exact absurd this (by decide)))
      have TT7 := hide ((TT.out.gr hg).kept (hu7.below (B := 2) (by omega) (by omega)))
      have ha := act_puts 59 rfl hsz hdf hk [34, 35, 36, 37, 38, 39, 40, 41, 42, 7] (by decide +kernel)
      simp only [puts, List.foldl_cons, List.foldl_nil, e34, e35, e36, e37, e38, e39, e40, e41, e42, e7] at ha
      simp only [Act.put, List.setIfInBounds_toArray, List.set_cons_succ, List.set_cons_zero] at ha
      show Exit.then _ _ Exit.normal { tmps := a'.tmps, defers := a'.defers } w7
      subst ha
      clear hall hk hsz hdf hg hb7 hu7 pl pr BD e34 e35 e36 e37 e38 e39 e40 e41 e42 e7 LL GG TT BZ BS hND2
      have hrl := PL.out.root
      have hrr := PR.out.root
      obtain ⟨rl, HRL⟩ : ∃ z, Hid (rootP (L.take c) = z) := ⟨_, rfl⟩
      obtain ⟨rr, HRR⟩ : ∃ z, Hid (rootP (L.drop c) = z) := ⟨_, rfl⟩
      rw [HRL.out] at hrl
      rw [HRR.out] at hrr
      have HRT : Hid (fkH q rl rr = rootP L) := (show _ = _ by rw [← HRL.out, ← HRR.out]; exact HROOT.out.symm)
      obtain ⟨rt, HRTE⟩ : ∃ z, Hid (rootP L = z) := ⟨_, rfl⟩
      rw [HRTE.out] at HRT
      go_upto_region 7 with fail
      refine wp_region_inv Tryd.mixed (KS (fun i_ => match i_ with | 0 | 12 => .val (.int .i64 (q : Int)) | 1 => .val (.pointer (some ⟨D, 0, none⟩)) | 2 | 3 | 4 => .val (PT bl) | 5 => .val (HV rl) | 6 => .val (.pointer (some ⟨D, 1, none⟩)) | 7 | 8 | 9 => .val (PT br) | 10 => .val (HV rr) | 11 => .val (HV rt) | 13 => .val (.agg [PT bl, PT br].toArray) | 14 => .val (.agg (PaC rt ze (q : Int) (PT bl) (PT br)).toArray) | 15 | 16 => .of (fun w v_ => ∃ b_, v_ = PT b_ ∧ Blk w b_ 113 (PaC rt ze (q : Int) (PT bl) (PT br))) (fun _ _ _ hg ⟨b_, e, h2⟩ => ⟨b_, e, h2.kept hg⟩) | _ => .free)) 59 rfl (by decide +kernel) (KS_mono _) ?_ ?_
      · refine AllFrom.cons (fun a' w' hg hk hd => ?_) (AllFrom.cons (fun a' w' hg hk hd => ?_) (AllFrom.cons (fun a' w' hg hk hd => ?_) (AllFrom.cons (fun a' w' hg hk hd => ?_) (AllFrom.cons (fun a' w' hg hk hd => ?_) (AllFrom.cons (fun a' w' hg hk hd => ?_) (AllFrom.cons (fun a' w' hg hk hd => ?_) (AllFrom.cons (fun a' w' hg hk hd => ?_) (AllFrom.cons (fun a' w' hg hk hd => ?_) (AllFrom.cons (fun a' w' hg hk hd => ?_) (AllFrom.cons (fun a' w' hg hk hd => ?_) (AllFrom.cons (fun a' w' hg hk hd => ?_) (AllFrom.cons (fun a' w' hg hk hd => ?_) (AllFrom.cons (fun a' w' hg hk hd => ?_) (AllFrom.cons (fun a' w' hg hk hd => ?_) (AllFrom.cons (fun a' w' hg hk hd => ?_) (AllFrom.cons (fun a' w' hg hk hd => ?_) AllFrom.nil))))))))))))))))
        · skip
          intro Q
          have e5 : a'.eval (.tmp 5) = .pointer (some ⟨E, 0, none⟩) := hk.at 5 (by decide +kernel)
          have hc := (BZ7.out.kept hg).cell (j := 0) rfl
          clear hd hk
          exact wp_value (.int .i64 (q : Int)) (by simp only [execOp, e5]; go_simp) (KS_mkv rfl rfl)
        · skip
          intro Q
          have e7 : a'.eval (.tmp 7) = .pointer (some ⟨D, 0, none⟩) := hk.at 7 (by decide +kernel)
          clear hd hk
          exact wp_value (.pointer (some ⟨D, 0, none⟩)) (by simp only [execOp, e7]; go_simp) (KS_mkv rfl rfl)
        · skip
          intro Q
          have e44 : a'.eval (.tmp 44) = .pointer (some ⟨D, 0, none⟩) := KS_val (hd.val 1 44 (by decide +kernel)) rfl
          have hc := (BQ.out.kept hg).cell (j := 0) rfl
          clear hd hk
          exact wp_value (PT bl) (by simp only [execOp, e44]; go_simp) (KS_mkv rfl rfl)
        · skip
          intro Q
          have e45 : a'.eval (.tmp 45) = PT bl := KS_val (hd.val 2 45 (by decide +kernel)) rfl
          clear hd hk
          exact wp_value (PT bl) (by simp only [execOp, e45]; go_simp) (KS_mkv rfl rfl)
        · skip
          intro Q
          have e46 : a'.eval (.tmp 46) = PT bl := KS_val (hd.val 3 46 (by decide +kernel)) rfl
          clear hd hk
          exact wp_value (PT bl) (by simp only [execOp, e46]; go_simp) (KS_mkv rfl rfl)
        · skip
          intro Q
          have e47 : a'.eval (.tmp 47) = PT bl := KS_val (hd.val 4 47 (by decide +kernel)) rfl
          exact wp_load_row 24 _ rfl _ _ e47 (By (rl).1) _ (rangeAt_kept11 hrl.1 hrl.2 hg) Tryd.underlying24 rfl (Tryd.sizeH _) (KS_mkv rfl rfl)
        · skip
          intro Q
          have e7 : a'.eval (.tmp 7) = .pointer (some ⟨D, 0, none⟩) := hk.at 7 (by decide +kernel)
          clear hd hk
          exact wp_value (.pointer (some ⟨D, 1, none⟩)) (by simp only [execOp, e7]; go_simp) (KS_mkv rfl rfl)
        · skip
          intro Q
          have e49 : a'.eval (.tmp 49) = .pointer (some ⟨D, 1, none⟩) := KS_val (hd.val 6 49 (by decide +kernel)) rfl
          have hc := (BQ.out.kept hg).cell (j := 1) rfl
          clear hd hk
          exact wp_value (PT br) (by simp only [execOp, e49]; go_simp) (KS_mkv rfl rfl)
        · skip
          intro Q
          have e50 : a'.eval (.tmp 50) = PT br := KS_val (hd.val 7 50 (by decide +kernel)) rfl
          clear hd hk
          exact wp_value (PT br) (by simp only [execOp, e50]; go_simp) (KS_mkv rfl rfl)
        · skip
          intro Q
          have e51 : a'.eval (.tmp 51) = PT br := KS_val (hd.val 8 51 (by decide +kernel)) rfl
          clear hd hk
          exact wp_value (PT br) (by simp only [execOp, e51]; go_simp) (KS_mkv rfl rfl)
        · skip
          intro Q
          have e52 : a'.eval (.tmp 52) = PT br := KS_val (hd.val 9 52 (by decide +kernel)) rfl
          exact wp_load_row 24 _ rfl _ _ e52 (By (rr).1) _ (rangeAt_kept11 hrr.1 hrr.2 hg) Tryd.underlying24 rfl (Tryd.sizeH _) (KS_mkv rfl rfl)
        · skip
          intro Q
          have e43 : a'.eval (.tmp 43) = .int .i64 (q : Int) := KS_val (hd.val 0 43 (by decide +kernel)) rfl
          have e48 : a'.eval (.tmp 48) = HV rl := KS_val (hd.val 5 48 (by decide +kernel)) rfl
          have e53 : a'.eval (.tmp 53) = HV rr := KS_val (hd.val 10 53 (by decide +kernel)) rfl
          refine wp_call 54 _ (run_enter 54 _ _ rfl (by kernel_rfl)) ?_
          simp only [List.map_toArray, List.map_nil, List.map_cons, e43, e48, e53]
          refine (hfork_any q rl rr _ (TT7.out.gr hg)).mono ?_
          rintro e w5 ⟨rfl, hb5⟩
          exact ⟨_, rfl, KS_mkv rfl (by rw [HRT.out]), hb5⟩
        · skip
          intro Q
          have e5 : a'.eval (.tmp 5) = .pointer (some ⟨E, 0, none⟩) := hk.at 5 (by decide +kernel)
          have hc := (BZ7.out.kept hg).cell (j := 0) rfl
          clear hd hk
          exact wp_value (.int .i64 (q : Int)) (by simp only [execOp, e5]; go_simp) (KS_mkv rfl rfl)
        · skip
          intro Q
          have e7 : a'.eval (.tmp 7) = .pointer (some ⟨D, 0, none⟩) := hk.at 7 (by decide +kernel)
          exact wp_load_row 111 _ rfl _ _ e7 ([PT bl, PT br]) _ ((BQ.out.kept hg).range0) Tryd.underlying111 rfl (by kernel_rfl) (KS_mkv rfl rfl)
        · skip
          intro Q
          have e54 : a'.eval (.tmp 54) = HV rt := KS_val (hd.val 11 54 (by decide +kernel)) rfl
          have e55 : a'.eval (.tmp 55) = .int .i64 (q : Int) := KS_val (hd.val 12 55 (by decide +kernel)) rfl
          have e56 : a'.eval (.tmp 56) = .agg [PT bl, PT br].toArray := KS_val (hd.val 13 56 (by decide +kernel)) rfl
          exact wp_value (.agg (PaC rt ze (q : Int) (PT bl) (PT br)).toArray) (by simp only [execOp, List.map_toArray, List.map_cons, List.map_nil, e54, e55, e56, Sem.run_bind, Sem.run_pure]; exact congrArg (fun r => Result.andThen r _) (build_part rt (q : Int) (PT bl) (PT br) _)) (KS_mkv rfl rfl)
        · skip
          intro Q
          have e57 : a'.eval (.tmp 57) = .agg (PaC rt ze (q : Int) (PT bl) (PT br)).toArray := KS_val (hd.val 14 57 (by decide +kernel)) rfl
          exact wp_grow _ _ (by simp only [execOp, e57]; go_simp) ((Below.refl _ _).alloc (Nat.le_refl _) _) (KS_mko rfl ⟨_, rfl, Blk.new w' 113 (PaC rt ze (q : Int) (PT bl) (PT br))⟩)
        · skip
          intro Q
          have r58 := KS_of (hd.val 15 58 (by decide +kernel)) rfl
          exact wp_value (a'.eval (.tmp 58)) (by simp only [execOp]; rfl) (KS_mko rfl r58)
      · intro a' w8 hsz hdf hk hall hg
        have e43 : a'.eval (.tmp 43) = .int .i64 (q : Int) := KS_val (hall 0 _ 43 rfl rfl) rfl
        have e44 : a'.eval (.tmp 44) = .pointer (some ⟨D, 0, none⟩) := KS_val (hall 1 _ 44 rfl rfl) rfl
        have e45 : a'.eval (.tmp 45) = PT bl := KS_val (hall 2 _ 45 rfl rfl) rfl
        have e46 : a'.eval (.tmp 46) = PT bl := KS_val (hall 3 _ 46 rfl rfl) rfl
        have e47 : a'.eval (.tmp 47) = PT bl := KS_val (hall 4 _ 47 rfl rfl) rfl
        have e48 : a'.eval (.tmp 48) = HV rl := KS_val (hall 5 _ 48 rfl rfl) rfl
        have e49 : a'.eval (.tmp 49) = .pointer (some ⟨D, 1, none⟩) := KS_val (hall 6 _ 49 rfl rfl) rfl
        have e50 : a'.eval (.tmp 50) = PT br := KS_val (hall 7 _ 50 rfl rfl) rfl
        have e51 : a'.eval (.tmp 51) = PT br := KS_val (hall 8 _ 51 rfl rfl) rfl
        have e52 : a'.eval (.tmp 52) = PT br := KS_val (hall 9 _ 52 rfl rfl) rfl
        have e53 : a'.eval (.tmp 53) = HV rr := KS_val (hall 10 _ 53 rfl rfl) rfl
        have e54 : a'.eval (.tmp 54) = HV rt := KS_val (hall 11 _ 54 rfl rfl) rfl
        have e55 : a'.eval (.tmp 55) = .int .i64 (q : Int) := KS_val (hall 12 _ 55 rfl rfl) rfl
        have e56 : a'.eval (.tmp 56) = .agg [PT bl, PT br].toArray := KS_val (hall 13 _ 56 rfl rfl) rfl
        have e57 : a'.eval (.tmp 57) = .agg (PaC rt ze (q : Int) (PT bl) (PT br)).toArray := KS_val (hall 14 _ 57 rfl rfl) rfl
        have r58 : (fun w v_ => ∃ b_, v_ = PT b_ ∧ Blk w b_ 113 (PaC rt ze (q : Int) (PT bl) (PT br))) w8 (a'.eval (.tmp 58)) := KS_of (hall 15 _ 58 rfl rfl) rfl
        obtain ⟨x58, hx58⟩ : ∃ v, a'.eval (.tmp 58) = v := ⟨_, rfl⟩
        rw [hx58] at r58
        have r2 : (fun w v_ => ∃ b_, v_ = PT b_ ∧ Blk w b_ 113 (PaC rt ze (q : Int) (PT bl) (PT br))) w8 (a'.eval (.tmp 2)) := KS_of (hall 16 _ 2 rfl rfl) rfl
        obtain ⟨x2, hx2⟩ : ∃ v, a'.eval (.tmp 2) = v := ⟨_, rfl⟩
        rw [hx2] at r2
        have ha := act_puts 59 rfl hsz hdf hk [43, 44, 45, 46, 47, 48, 49, 50, 51, 52, 53, 54, 55, 56, 57, 58, 2] (by decide +kernel)
        simp only [puts, List.foldl_cons, List.foldl_nil, e43, e44, e45, e46, e47, e48, e49, e50, e51, e52, e53, e54, e55, e56, e57, hx58, hx2] at ha
        simp only [Act.put, List.setIfInBounds_toArray, List.set_cons_succ, List.set_cons_zero] at ha
        clear hall hk hsz hdf e43 e44 e45 e46 e47 e48 e49 e50 e51 e52 e53 e54 e55 e56 e57 hx58 hx2
        subst ha
        obtain ⟨b8, e8, hB8⟩ := r2
        subst e8
        have LL8 : Hid (Below N w w8) := (show _ from LL7.out.trans (hg.mono GG7.out))
        have HPT : Hid (Pt w8 b8 L) := (show Pt _ _ _ from Pt.two (by rw [HNL.out]; omega) (bl := bl) (br := br) (by rw [HRTE.out, HQ.out]; exact hB8) (by rw [HC.out]; exact PL.out.kept hg) (by rw [HC.out]; exact PR.out.kept hg))
        clear hg hB8 r58
        go_wp2_with fail
        go_ret
        exact ⟨b8, rfl, HPT.out, LL8.out⟩
#print axioms above_n
end Go.Proofs.YtooffljimdklfaaDoor

/-
  member.partsOf: what the call does.
-/
namespace Go.Proofs.YtooffljimdklfaaDoor
open Go.RowKit Go.Shelf
attribute [local go_sem] Oper.semAt_some
theorem wp_store_ends {w : World} {o : Oper} {a : Act} {K : Act → World → Prop} {Q : Exit → Act → World → Prop} (x y : Operand) (ho : o.op = .store 105 x y) (b : Nat) (T : TypeId) (u : Value) (p : Option Addr) (n c : Nat)
    (hx : a.eval x = .pointer (some ⟨b, 0, none⟩)) (hy : a.eval y = .slice p n c) (hB : Blk w b T [u]) (h : ∀ w', Blk w' b T [.slice p n c] → But b w w' → K (a.put o.dst undef) w') : o.wp Tryd.prog a w K Q := by
  have hc := hB.cell (j := 0) (v := u) rfl
  have hf := hB.frozen 0
  have hrun : (execOp a.eval o).run Tryd.prog w = .ok .skip (w.setCell ⟨b, 0, none⟩ (.slice p n c)) := by
    simp only [execOp, ho, hx, hy]
    go_simp
  unfold Oper.wp
  rw [hrun]
  exact h _ (hB.set 0 (.slice p n c)) (But.setCell b w 0 _)
theorem wpListIn_run {P : Program} {l n : Nat} {ops : Array Oper} {rest : List Oper} {op : Oper} {a : Act} {w w1 : World} {Q : Exit → Act → World → Prop} (hgd : op.guard = none) (hd : ∀ c, op.op ≠ .defer c) (v : Value)
    (hrun : (execOp a.eval op).run P w = .ok (.value v) w1) (h : wpListIn (Fence.wide.inRound l) n P ops Q rest (a.put op.dst v) w1) : wpListIn (Fence.wide.inRound l) n P ops Q (op :: rest) a w :=
  wpListIn_plain hgd fun _ hK => op_in hd (wp_run v hrun (hK _ _ h))
theorem wp_build_endT {o : Oper} {a : Act} {w : World} {K : Act → World → Prop} {Q : Exit → Act → World → Prop} (x y : Operand) (ho : o.op = .build 79 #[(0, .const (.bool true)), (1, x), (2, y)]) (k v : Hs) (hx : a.eval x = .agg (By k.1).toArray) (hy : a.eval y = .agg (By v.1).toArray)
    (h : K (a.put o.dst (.agg (EN.c (true, k, v)).toArray)) w) : o.wp Tryd.prog a w K Q := by
  have hr := build_end true k v w
  have hc : a.eval (.const (.bool true)) = .bool true := rfl
  unfold Oper.wp execOp
  simp only [ho, hx, hy, hc, hr, List.map_toArray, List.map_cons, List.map_nil, Sem.run_bind, Sem.run_pure, Result.andThen_ok]
  exact h
theorem wp_build_rowe {o : Oper} {a : Act} {w : World} {K : Act → World → Prop} {Q : Exit → Act → World → Prop} (x : Operand) (ho : o.op = .buildSlice 105 1 #[(0, x)]) (p : En) (hx : a.eval x = .agg (EN.c p).toArray)
    (h : K (a.put o.dst (.slice (some ⟨w.heap.size, 0, none⟩) 1 1)) (w.alloc (.cells (EN.c p).toArray 79 (0, 0)))) : o.wp Tryd.prog a w K Q := by
  have hr := build_row1e p w
  unfold Oper.wp execOp
  simp only [ho, hx, hr, List.map_toArray, List.map_cons, List.map_nil, Sem.run_bind, Sem.run_pure, Result.andThen_ok]
  exact h
theorem wpListIn_build_endT {l n : Nat} {ops : Array Oper} {rest : List Oper} {op : Oper} {a : Act} {w : World} {Q : Exit → Act → World → Prop} (hgd : op.guard = none) (x y : Operand) (ho : op.op = .build 79 #[(0, .const (.bool true)), (1, x), (2, y)]) (k v : Hs) (hx : a.eval x = .agg (By k.1).toArray) (hy : a.eval y = .agg (By v.1).toArray)
    (h : wpListIn (Fence.wide.inRound l) n Tryd.prog ops Q rest (a.put op.dst (.agg (EN.c (true, k, v)).toArray)) w) : wpListIn (Fence.wide.inRound l) n Tryd.prog ops Q (op :: rest) a w :=
  wpListIn_plain hgd fun _ hK => op_in (by rw [ho]; intro c h; cases h) (wp_build_endT x y ho k v hx hy (hK _ _ h))
theorem wpListIn_build_rowe {l n : Nat} {ops : Array Oper} {rest : List Oper} {op : Oper} {a : Act} {w : World} {Q : Exit → Act → World → Prop} (hgd : op.guard = none) (x : Operand) (ho : op.op = .buildSlice 105 1 #[(0, x)]) (p : En) (hx : a.eval x = .agg (EN.c p).toArray)
    (h : wpListIn (Fence.wide.inRound l) n Tryd.prog ops Q rest (a.put op.dst (.slice (some ⟨w.heap.size, 0, none⟩) 1 1)) (w.alloc (.cells (EN.c p).toArray 79 (0, 0)))) : wpListIn (Fence.wide.inRound l) n Tryd.prog ops Q (op :: rest) a w :=
  wpListIn_plain hgd fun _ hK => op_in (by rw [ho]; intro c h; cases h) (wp_build_rowe x ho p hx (hK _ _ h))
theorem wpListIn_append_E {α : Type} {E : Enc α} {P : Program} {t e : TypeId} {bytes : Nat} (ht : P.underlying t = some (.slice e)) (hi : ∃ i z, P.info? e = some i ∧ i.zero = some z ∧ i.size = E.n ∧ i.bytes = bytes ∧ z.cells.size = E.n) (hby : bytes ≤ 1000)
    {l n : Nat} {ops : Array Oper} {rest : List Oper} {o : Oper} {a : Act} {w : World} {Q : Exit → Act → World → Prop} (hgd : o.guard = none) (s x : Operand) (ho : o.op = .call { callee := .builtin .append, args := #[s, x], argTypes := #[t, t] }) (base : Nat)
    (v : Value) (L : List α) (hv : a.eval s = v) (hown : OwnG E w base e v L) (xv : Value) (M : List α) (hx : a.eval x = xv) (hr : RdG E w xv M) (hlen : L.length + M.length ≤ 10000000) (hbase : base ≤ w.heap.size)
    (h : ∀ v' w', OwnG E w' base e v' (L ++ M) → w.grownBy w' v.ownBlock → (∀ b, v'.ownBlock = some b → v.ownBlock = some b ∨ b = w.heap.size) → wpListIn (Fence.wide.inRound l) n P ops Q rest (a.put o.dst v') w') : wpListIn (Fence.wide.inRound l) n P ops Q (o :: rest) a w :=
  wpListIn_plain hgd fun _ hK => op_in (by rw [ho]; intro c h; cases h) (wp_append_E ht hi hby s x ho base v L hv hown xv M hx hr hlen hbase fun v' w' g1 g2 g3 => hK _ _ (h v' w' g1 g2 g3))
theorem wpListIn_store_ends {l n0 : Nat} {ops : Array Oper} {rest : List Oper} {op : Oper} {a : Act} {w : World} {Q : Exit → Act → World → Prop} (hgd : op.guard = none) (x y : Operand) (ho : op.op = .store 105 x y) (b : Nat) (T : TypeId) (u : Value) (p : Option Addr) (n c : Nat)
    (hx : a.eval x = .pointer (some ⟨b, 0, none⟩)) (hy : a.eval y = .slice p n c) (hB : Blk w b T [u]) (h : ∀ w', Blk w' b T [.slice p n c] → But b w w' → wpListIn (Fence.wide.inRound l) n0 Tryd.prog ops Q rest (a.put op.dst undef) w') : wpListIn (Fence.wide.inRound l) n0 Tryd.prog ops Q (op :: rest) a w :=
  wpListIn_plain hgd fun _ hK => op_in (by rw [ho]; intro c h; cases h) (wp_store_ends x y ho b T u p n c hx hy hB (fun w' h1 h2 => hK _ _ (h w' h1 h2)))
theorem PtF.put10 {w : World} {D : Nat} {o0 o : Obj} (hX : w.heap[D]? = some o0) (hn : o0.isCells = false) : ∀ {n b : Nat} {L : List It}, PtF w n b L → PtF (w.putObj D o) n b L
  | 0, _, _, h => h
  | n + 1, b, L, h => by
    rcases h with ⟨x, e, hB⟩ | ⟨h2, bl, br, hB, h3, h4⟩
    · exact .inl ⟨x, e, hB.put10 hX hn⟩
    · exact .inr ⟨h2, bl, br, hB.put10 hX hn, h3.put10 hX hn, h4.put10 hX hn⟩
theorem Pt.put10 {w : World} {D b : Nat} {o0 o : Obj} {L : List It} (h : Pt w b L) (hX : w.heap[D]? = some o0) (hn : o0.isCells = false) : Pt (w.putObj D o) b L := by
  obtain ⟨n, h⟩ := h
  exact ⟨n, h.put10 hX hn⟩
/-- What is kept while items are told. -/
structure KK (w3 : World) (N E : Nat) (B : Nat) (pre : List It) (X : World) : Prop where
  own : ∃ v, Blk X E 105 [v] ∧ OwnG EN X N 79 v (pre.map enI) ∧ ∀ b, v.ownBlock = some b → b = N ∨ B ≤ b
  c : Chg (fun k => k = E ∨ k = N ∨ B ≤ k) w3 X
  s : w3.heap.size < B
  t : B ≤ X.heap.size
theorem KK.chg {w3 : World} {N E B : Nat} {pre : List It} {X Y : World} (h : KK w3 N E B pre X) {G : Nat → Prop} (hc : Chg G X Y) (hE : ¬ G E) (hG : ∀ k, G k → k < w3.heap.size → False) (hO : ∀ k cur, G k → X.heap[k]? ≠ some (.cells cur 79 (0, 0))) : KK w3 N E B pre Y := by
  obtain ⟨v, h1, h2, h3⟩ := h.own
  refine ⟨⟨v, h1.chg hc hE, h2.chg hc (fun b hb hg => ?_), h3⟩, h.c.then hc (fun i hi hg => (hG i hg hi).elim), h.s, Nat.le_trans h.t hc.size⟩
  obtain ⟨_, _, cur, hcur⟩ := h2.block hb
  exact hO b cur hg hcur
theorem run_make0 (w : World) (n : Nat) (hn : n ≤ 1000000) : ∃ cs : List Value, cs.length = n * EN.n ∧ (Instr.makeSlice 105 (.int .i64 0) (.int .i64 (n : Int))).run Tryd.prog w = .ok (.slice (some ⟨w.heap.size, 0, none⟩) 0 n) (w.alloc (.cells cs.toArray 79 (0, 0))) := by
  obtain ⟨i, z, h1, h2, h3, h4, h5⟩ := infoE9
  have hrun := run_make (P := Tryd.prog) w 105 79 i _ Tryd.underlying105 h1 h2 .i64 .i64 0 n (by omega) (by omega) (by rw [h4]; omega) (by omega)
  refine ⟨(madeCells z.cells ((n : Int).toNat * i.size)).toList, by rw [Array.length_toList, size_madeCells, Int.toNat_natCast, h3], ?_⟩
  simp only [Int.toNat_natCast, Int.toNat_zero] at hrun ⊢
  exact hrun
set_option maxHeartbeats 4000000 in
set_option maxRecDepth 100000 in
theorem partsOf_any {B0 : Nat} {w : World} {pv : Value} {L : List It} (hA : AllOk B0 w pv L) (hLn : Calls Tryd.prog 48 #[pv] w fun e w' => e = .returned (.int .i64 (L.length : Int)) ∧ w' = w) (hL : L.length ≤ 1000000) (hs : Srt L) (hT : Tabs w) : Calls Tryd.prog 28 #[pv] w fun e w' => ∃ v, e = .returned v ∧ Top w' v L ∧ Below w.heap.size w w' := by
  obtain ⟨q, hTO, hCA⟩ := hA
  have HTO := hide hTO
  have HCA := hide hCA
  have HLN := hide hLn
  have HT := hide hT
  have HS := hide hs
  obtain ⟨N, HN⟩ : ∃ N, Hid (w.heap.size = N) := ⟨_, rfl⟩
  have h2 : 2 ≤ N := by rw [← HN.out]; exact hT.size
  rw [HN.out]
  obtain ⟨ln, hln⟩ : ∃ z, L.length = z := ⟨_, rfl⟩
  rw [hln] at HLN hL
  have HLL := hide hln
  clear hTO hCA hLn hT hs hln
  obtain ⟨cs0, hcs0, hmk⟩ := run_make0 w ln hL
  have HCS := hide hcs0
  clear hcs0
  obtain ⟨N0, -⟩ : ∃ n : Nat, True := ⟨9, trivial⟩
  refine (callsIn_wide (n := N0)).1 ?_
  refine callsIn_of_wp_marks Tryd.func28 rfl trivial ?_ rfl
  simp only [Tryd.ntmps28, List.size_toArray, List.length_cons, List.length_nil, Nat.reduceAdd, Nat.reduceSub, Array.replicate_succ, Array.replicate_zero, List.push_toArray, List.append_toArray, List.nil_append, List.cons_append]
  gi_wp2_with fail
  refine wide_call HLN.out ?_
  rintro e w0 ⟨rfl, hw0⟩
  subst w0
  gi_wp2_with fail
  obtain ⟨E, HE⟩ : ∃ E, Hid (N + 1 = E) := ⟨_, rfl⟩
  rw [HN.out, HE.out]
  obtain ⟨w0, hw0⟩ : ∃ z, z = (w.alloc (.cells cs0.toArray 79 (0, 0))).alloc (.cells [.slice (some ⟨N, 0, none⟩) 0 ln].toArray 105 (0, 0)) := ⟨_, rfl⟩
  change Fence.wide.fn _ ∧ _ ∧ CallsIn _ _ _ _ _ ((w.alloc (.cells cs0.toArray 79 (0, 0))).alloc (.cells [.slice (some ⟨N, 0, none⟩) 0 ln].toArray 105 (0, 0))) _
  rw [← hw0]
  obtain ⟨b0, b1, lb0, sz0⟩ := box2 HN hw0
  rw [HE.out] at b1
  have hEN : N < E := by rw [← HE.out]; omega
  clear hw0 hmk
  have lbw : Below w.heap.size w w0 := lb0.mono (Nat.le_of_eq HN.out)
  refine wide_call (HCA.out w0 lbw) ?_
  rintro e w1 ⟨E1, rfl, hE1, hbE, hb1⟩
  have B0 := hide (b0.kept hb1)
  have B1 := hide (b1.kept hb1)
  have BE1 := hide hbE
  have L1 : Hid (Below N w w1) := (show _ from lb0.trans (hb1.mono (by omega)))
  have hEE1 : E < E1 := Nat.lt_of_lt_of_le b1.lt hE1
  have HCAP : Hid (ln ≤ 1000000) := (show _ ≤ _ from hL)
  clear b0 b1 lb0 sz0 lbw hbE hb1 hE1 HCA HLN
  have hE1s : E1 < w1.heap.size := BE1.out.lt
  gi_wp2_with fail
  have TO1 := hide (HTO.out.kept (L1.out.mono (Nat.le_of_eq HN.out)))
  have HQ : Hid (∀ b, q = some ⟨b, 0, none⟩ → b < N) := (show _ from fun b hb => by
    rcases HTO.out with ⟨_, e⟩ | ⟨b', e, hn⟩
    · rw [hb] at e; cases e
    · rw [hb] at e
      cases e
      rw [← HN.out]; exact hn.lt)
  have hOWN0 : Hid (OwnG EN w1 N 79 (.slice (some ⟨N, 0, none⟩) 0 ln) []) := (show OwnG _ _ _ _ _ _ from OwnG.of_blk (L := []) (cap := ln) B0.out (Nat.le_refl _) (by simp [Enc.cs_nil]) HCS.out (Nat.zero_le _) (by unfold maxLen; omega))
  refine wp_ranged4 (n := N0) (gf := 63) (lb := #[PT E1]) rfl (enters_of Tryd.func63 (by kernel_rfl) rfl) (encs := itV) (fun _ => rfl) (R := fun pre x => (pre ++ [x]) <+: L) (S := fun xs => xs = L) (KK w1 N E) (fun _ _ _ _ => False) ?ip ?xp ?ib ?xb ?h0
    (all1_hands (N := N) w1 BE1.out TO1.out HQ.out (G := fun k => k = E ∨ k = N) (fun k hk => by omega) (by omega))
    (fun x h => { tmps := #[pv, undef, .pointer none, PT E, PT h, PT (h + 1), pv, .int .i64 (ln : Int), .slice (some ⟨N, 0, none⟩) 0 ln, pv, .func (.func 63) #[] #[PT E1], HV x.1, HV x.2, undef, undef, undef, undef, undef, undef, undef, undef, undef, undef, undef], defers := [] })
    (fun x h W => Blk W h 24 (By x.1.1) ∧ Blk W (h + 1) 24 (By x.2.1)) ?ap ?assign ?body ?done ?left
  case ip =>
    intro B pre X k o0 o hk hX hn hI
    obtain ⟨v, g1, g2, g3⟩ := hI.own
    refine hI.chg (chg_put (G := fun j => j = k) rfl o) (fun e => ?_) (fun j hj hl => by omega) (fun j cur hj hcur => ?_)
    · subst e
      rw [show X.heap[E]? = _ from g1] at hX
      cases hX
      cases hn
    · subst hj
      rw [hX] at hcur
      cases hcur
      cases hn
  case xp => exact fun _ _ _ _ _ _ _ _ _ _ h => h
  case ib =>
    intro B pre X Y hI hb
    exact hI.chg (G := fun _ => False) (Chg.of_below hb) id (fun _ h => h.elim) (fun _ _ h => h.elim)
  case xb => exact fun _ _ _ _ _ h _ => h
  case h0 =>
    intro X hX hlt
    exact ⟨⟨_, B1.out.kept hX, hOWN0.out.kept hX, fun b hb => by simp only [Value.ownBlock, Option.some.injEq] at hb; exact .inl hb.symm⟩, Chg.of_below hX, hlt, Nat.le_refl _⟩
  case ap =>
    rintro x h X k o0 o hk hX hn ⟨g1, g2⟩
    exact ⟨g1.put10 hX hn, g2.put10 hX hn⟩
  case assign =>
    intro m' l' x X K' hle hK
    have BW := Blk.new X 24 (By zh.1)
    obtain ⟨h, Hh⟩ : ∃ h, Hid (X.heap.size = h) := ⟨_, rfl⟩
    have HK := hide hK
    rw [Hh.out] at BW HK
    clear hK
    simp only [itV]
    gi_wp2_with (first
      | (rw [Hh.out]; refine wpListIn_store_blk rfl 24 _ _ rfl h (By zh.1) (By x.1.1) 24 rfl rfl BW (by rw [By_len, By_len]) (Tryd.sizeH x.1) (By_one _) ?_; intro w5 hb5 hu5 hz5; have s5 : Hid (w5.heap.size = h + 1) := (show _ = _ by rw [hz5]; simp [Hh.out]); clear hz5)
      | (rw [s5.out]; refine wpListIn_store_blk rfl 24 _ _ rfl (h + 1) (By zh.1) (By x.2.1) 24 rfl rfl (by rw [← s5.out]; exact Blk.new w5 24 (By zh.1)) (by rw [By_len, By_len]) (Tryd.sizeH x.2) (By_one _) ?_; intro w6 hb6 hu6 hz6; clear hz6)
      | fail)
    have hs5 := s5.out
    refine HK.out w6 ?_ ⟨(hb5.alloc _).but hu6 (by omega), hb6⟩
    have a1 : Below h X w5 := ((Below.refl _ _).alloc (Nat.le_of_eq Hh.out.symm) _).trans (hu5.below (Nat.le_refl _) (by simp [Hh.out]))
    have a2 : Below h w5 w6 := ((Below.refl _ _).alloc (by omega) _).trans (hu6.below (by omega) (by simp; omega))
    exact a1.trans a2
  case body =>
    rintro m' l' B pre x h X hwB hBh hle hI hR ⟨hA1, hA2⟩
    obtain ⟨v1, IB0, IO0, IH0⟩ := hI.own
    obtain ⟨a1, c1, hv1⟩ := IO0.form
    obtain ⟨n1, hn1⟩ : ∃ k, (pre.map enI).length = k := ⟨_, rfl⟩
    rw [hn1] at hv1
    subst hv1
    have IB := hide IB0
    have IO1 := hide IO0
    have IH := hide IH0
    have HI := hide hI
    have A1 := hide hA1
    have A2 := hide hA2
    have cE : X.cell? ⟨E, 0, none⟩ = some (.slice a1 n1 c1) := IB0.cell (j := 0) rfl
    have HL9 : Hid ((pre.map enI).length + [enI x].length ≤ 10000000) := (show _ ≤ _ by
      have := hR.length_le
      rw [List.length_append, List.length_singleton, HLL.out] at this
      rw [List.length_map, List.length_singleton]
      omega)
    have HBX := hide hI.t
    have hNX : N ≤ X.heap.size := by omega
    clear IB0 IO0 IH0 hI hR hA1 hA2 hn1
    have ra := A1.out.range0
    have rb := A2.out.range0
    have HL8 : Hid (N ≤ (X.alloc (.cells (EN.c (enI x)).toArray 79 (0, 0))).heap.size) := (show _ ≤ _ by simp; omega)
    gi_wp2_with (first
      | (refine wpListIn_load_row9 rfl 24 _ rfl h 0 rfl (By x.1.1) _ ra Tryd.underlying24 rfl (Tryd.sizeH x.1) ?_)
      | (refine wpListIn_load_row9 rfl 24 _ rfl (h + 1) 0 rfl (By x.2.1) _ rb Tryd.underlying24 rfl (Tryd.sizeH x.2) ?_)
      | (refine wpListIn_build_endT rfl _ _ rfl x.1 x.2 rfl rfl ?_)
      | (refine wpListIn_build_rowe rfl _ rfl (true, x.1, x.2) rfl ?_)
      | (refine wpListIn_append_E (E := EN) Tryd.underlying105 infoE9 (by decide) rfl (.tmp 13) (.tmp 17) rfl N (.slice a1 n1 c1) (pre.map enI) rfl (IO1.out.kept ((Below.refl _ _).alloc (Nat.le_refl _) _)) (.slice (some ⟨X.heap.size, 0, none⟩) 1 1) [enI x] rfl (rdG_one X 79 (true, x.1, x.2)) HL9.out HL8.out ?_; intro v9 w9 o9 g9 q9; have O9 := hide o9; have G9 := hide g9; have Q9 := hide q9; clear o9 g9 q9; obtain ⟨p9, c9, hv9⟩ := O9.out.form; obtain ⟨n2, hn2⟩ : ∃ k, (pre.map enI ++ [enI x]).length = k := ⟨_, rfl⟩; rw [hn2] at hv9; subst hv9; clear hn2; have B9 : Hid (Blk w9 E 105 [.slice a1 n1 c1]) := (show Blk _ _ _ _ from (G9.out.block E (by simp; have := IB.out.lt; omega) (fun e => by obtain ⟨_, _, cur, hcur⟩ := IO1.out.block e.symm; have := IB.out.symm.trans hcur; simp at this)).trans (IB.out.alloc _)))
      | (refine wpListIn_store_ends rfl (.tmp 3) (.tmp 18) rfl E 105 (.slice a1 n1 c1) p9 n2 c9 rfl rfl B9.out ?_; intro w10 b10 u10)
      | fail)
    have hOne : (Value.slice p9 n2 c9).ownBlock = some E → False := fun e => by
      obtain ⟨_, _, cur, hcur⟩ := O9.out.block e
      have := B9.out.symm.trans hcur
      simp at this
    have hX9 : Chg (fun k => (Value.slice a1 n1 c1).ownBlock = some k) X w9 :=
      (Chg.alloc _ X (.cells (EN.c (enI x)).toArray 79 (0, 0))).trans (Chg.of_grown G9.out (fun k e _ => e))
    have hX10 : Chg (fun k => k = E ∨ (Value.slice a1 n1 c1).ownBlock = some k) X w10 :=
      (hX9.mono (fun k _ h => .inr h)).trans (Chg.of_but u10 (.inl rfl))
    refine ⟨keeps_chg hX10 (fun k o hk hko => ?_), hX10.mono (fun k _ h => ?_), ⟨⟨_, b10, ?_, fun b hb => ?_⟩, HI.out.c.trans (hX10.mono (fun k _ h => ?_)), HI.out.s, Nat.le_trans HI.out.t hX10.size⟩⟩
    · rcases hk with rfl | hk
      · rw [show X.heap[k]? = _ from IB.out] at hko
        cases hko
        rfl
      · obtain ⟨_, _, cur, hcur⟩ := IO1.out.block hk
        rw [hcur] at hko
        cases hko
        rfl
    · rcases h with h | h
      · exact .inl (.inl h)
      · rcases IH.out k h with h | h
        · exact .inl (.inr h)
        · exact .inr h
    · rw [List.map_append]
      exact O9.out.chg (F := fun k => k = E) (Chg.of_but u10 rfl) (fun b hb e => hOne (by rw [← e]; exact hb))
    · rcases Q9.out b hb with h | h
      · exact IH.out b h
      · have := HBX.out
        right
        rw [h]
        simp
        omega
    · rcases h with h | h
      · exact .inl h
      · exact .inr (IH.out k h)
  case done =>
    rintro Dd B xs X hDd hDB rfl hI hd
    obtain ⟨v1, IB0, IO0, IH0⟩ := hI.own
    obtain ⟨a1, c1, hv1⟩ := IO0.form
    rw [List.length_map, HLL.out] at hv1
    subst hv1
    have IO1 := hide IO0.rd
    have cX : X.cell? ⟨E, 0, none⟩ = some (.slice a1 ln c1) := IB0.cell (j := 0) rfl
    have hBs := hI.s
    have LX : Hid (Below N w X) := (show _ from L1.out.trans (hI.c.below (by omega) (fun k hk h => by rcases h with h | h | h <;> omega)))
    have HD := hide hd
    clear hI IB0 IO0 IH0 hd
    have hp := fun (Y : World) => chg_put (G := fun k => k = Dd) (W := Y) (l := Dd) rfl (.deferred none)
    have hNs : N ≤ X.heap.size := by have := LX.out.size; rw [HN.out] at this; exact this
    by_cases h0 : ln = 0
    · subst h0
      have HXS : Hid (xs = []) := List.eq_nil_of_length_eq_zero HLL.out
      gi_wp2_with fail
      refine ⟨by simp, .inl ⟨_, _, rfl, run_takeDeferred HD.out, ?_⟩⟩
      refine ⟨_, results_tmp rfl _ _ _, _, rfl, .inl ⟨HXS.out, rfl⟩, ?_⟩
      exact LX.out.trans ((hp X).below (by omega) (fun k hk h => by omega))
    · have q0 : ¬ (ln : Int) = 0 := by omega
      have TX := HT.out.kept (LX.out.mono h2)
      have CV := hide (above_n ln xs _ X IO1.out HS.out HLL.out (by omega) hL TX)
      have hDX := (Array.getElem?_eq_some_iff.1 HD.out).1
      gi_wp2_with fail
      refine wide_call CV.out ?_
      rintro e Y ⟨b5, rfl, t5, hb5⟩
      have T5 := hide t5
      have D5 := hide ((hb5.block Dd hDX).trans HD.out)
      have LY : Hid (Below N w Y) := (show _ from LX.out.trans (hb5.mono hNs))
      have hDY : Dd < Y.heap.size := (Array.getElem?_eq_some_iff.1 D5.out).1
      clear t5 hb5
      gi_wp2_with fail
      refine ⟨by simp, .inl ⟨_, _, rfl, run_takeDeferred D5.out, ?_⟩⟩
      refine ⟨_, results_tmp rfl _ _ _, _, rfl, .inr ⟨b5, rfl, ?_⟩, ?_⟩
      · exact T5.out.put10 D5.out rfl
      · exact LY.out.trans ((hp Y).below (by omega) (fun k hk h => by omega))
  case left => exact fun _ _ _ _ _ _ _ h => h.elim
#print axioms partsOf_any
end Go.Proofs.YtooffljimdklfaaDoor

/-
  (*part).prove: what the call does.
-/
namespace Go.Proofs.YtooffljimdklfaaDoor
open Go.RowKit
theorem PtF.chg {w w' : World} {F : Nat → Prop} (hc : Chg F w w') (hF : ∀ j cs, F j → Blk w j 113 cs → False) : ∀ {n b : Nat} {L : List It}, PtF w n b L → PtF w' n b L
  | 0, _, _, h => h
  | n + 1, b, L, h => by
    rcases h with ⟨x, e, hB⟩ | ⟨h2, bl, br, hB, h3, h4⟩
    · exact .inl ⟨x, e, hB.chg hc (fun h => hF _ _ h hB)⟩
    · exact .inr ⟨h2, bl, br, hB.chg hc (fun h => hF _ _ h hB), h3.chg hc hF, h4.chg hc hF⟩
theorem Pt.chg {w w' : World} {F : Nat → Prop} {b : Nat} {L : List It} (h : Pt w b L) (hc : Chg F w w') (hF : ∀ j cs, F j → Blk w j 113 cs → False) : Pt w' b L := by
  obtain ⟨n, h⟩ := h
  exact ⟨n, h.chg hc hF⟩
theorem acc_len {acc l : List Sp} {n : Nat} {L : List It} {k : Hs} (h : acc ++ l = (wayP L k).1) (hn : (wayP L k).1.length ≤ n) : acc.length ≤ n := by
  have := congrArg List.length h
  rw [List.length_append] at this
  omega
theorem way_short (k : Hs) : ∀ (n : Nat) (L : List It), L.length = n → Srt L → (wayP L k).1.length ≤ L.length := by
  intro n
  induction n using Nat.strongRecOn with
  | _ n ih =>
    intro L hn hs
    match L, hn, hs with
    | [], _, _ => simp [wayP_nil]
    | [x], _, _ => simp [wayP_one]
    | x :: y :: M, hn, hs =>
      have hl := sideP_len hs (by simp) k
      rw [wayP_step hs (by simp)]
      have := ih _ (by omega) (sideP (x :: y :: M) k) rfl (sideP_srt hs k)
      simp only [List.length_cons] at this hl ⊢
      omega
set_option maxHeartbeats 8000000 in
set_option maxRecDepth 100000 in
theorem prove_any {w : World} {v : Value} {L : List It} (k : Hs) (hTop : Top w v L) (hs : Srt L) (hL : L.length ≤ 1000000) : Calls Tryd.prog 29 #[v, HV k] w fun e w' => ∃ a c, e = .returned (.agg (PrC (.slice a (prP L k).1.length c) (prP L k)).toArray) ∧ OwnG SE w' w.heap.size 70 (.slice a (prP L k).1.length c) (prP L k).1 ∧ Below w.heap.size w w' := by
  obtain ⟨N, HN⟩ : ∃ N, Hid (w.heap.size = N) := ⟨_, rfl⟩
  rw [HN.out]
  have HS0 := hide hs
  have HWL : Hid ((wayP L k).1.length ≤ 1000000) := (show _ ≤ _ from Nat.le_trans (way_short k _ L rfl hs) hL)
  clear hs
  rcases hTop with ⟨rfl, rfl⟩ | ⟨b0, rfl, hP⟩
  · unfold HV
    go_enter Tryd.func29, Tryd.ntmps29
    go_upto_region 1 with fail
    obtain ⟨w1, hw1⟩ : ∃ z, z = (w.alloc (.cells (By k.1).toArray 24 (0, 0))).alloc (.cells (PrC (.slice none 0 0) zp).toArray 39 (0, 0)) := ⟨_, rfl⟩
    change Code.wp _ _ _ _ ((w.alloc (.cells (By k.1).toArray 24 (0, 0))).alloc (.cells (PrC (.slice none 0 0) zp).toArray 39 (0, 0)))
    rw [← hw1, HN.out]
    obtain ⟨b0, b1, ln, sz1⟩ := box2 HN hw1
    clear hw1
    have B1 := hide b1
    have L1 := hide ln
    clear b0 b1 ln sz1
    have hbe := build_proof0
    go_wp2_with (first
      | (refine wpList_build rfl 39 _ rfl (.agg (PrC (.slice none 0 0) zp).toArray) (by simp only [execOp, List.map_toArray, List.map_nil, Sem.run_bind, Sem.run_pure]; exact congrArg (fun r => Result.andThen r _) (hbe _)) ?_)
      | (refine wpList_store_blk rfl 39 _ _ rfl (N + 1) (PrC (.slice none 0 0) zp) (PrC (.slice none 0 0) zp) 39 rfl rfl B1.out rfl (Tryd.sizePr _ _) (PrC_one _) ?_; intro w7 hb7 hu7)
      | fail)
    refine bodyPost_ret (results_cell_row rfl _ _ (N + 1) 39 _ (0, 0) _ rfl hb7 Tryd.underlying39 rfl (by simpa using Tryd.sizePr _ _)) rfl ⟨none, 0, rfl, ownG_nil _ _ _, ?_⟩
    exact L1.out.trans (hu7.below (by omega) (by have := B1.out.lt; omega))
  have HP0 := hide hP
  clear hP
  unfold HV
  go_enter Tryd.func29, Tryd.ntmps29
  go_upto_region 1 with fail
  obtain ⟨w1, hw1⟩ : ∃ z, z = (w.alloc (.cells (By k.1).toArray 24 (0, 0))).alloc (.cells (PrC (.slice none 0 0) zp).toArray 39 (0, 0)) := ⟨_, rfl⟩
  change Code.wp _ _ _ _ ((w.alloc (.cells (By k.1).toArray 24 (0, 0))).alloc (.cells (PrC (.slice none 0 0) zp).toArray 39 (0, 0)))
  rw [← hw1, HN.out]
  obtain ⟨c0, c1, ln, sz1⟩ := box2 HN hw1
  clear hw1
  have KK1 := hide c0
  have ZZ1 := hide c1
  have LL1 := hide ln
  have PP1 := hide (HP0.out.kept (ln.mono (Nat.le_of_eq HN.out)))
  clear c0 c1 ln sz1 HP0
  go_wp2_with fail
  go_loopg [0, 5] L.length (fun g x y wr => ∃ (b : Nat) (M : List It) (acc : List Sp) (pa : Option Addr) (sn sc : Nat), x = PT b ∧ y = .slice pa sn sc ∧ M.length ≤ g ∧ Hid (Srt M) ∧ Hid (Pt wr b M) ∧ Hid (OwnG SE wr N 70 (.slice pa sn sc) acc) ∧ Hid (acc ++ (wayP M k).1 = (wayP L k).1 ∧ (wayP M k).2 = (wayP L k).2) ∧ Hid (Below N w wr) ∧ Hid (Blk wr N 24 (By k.1)) ∧ Hid (Blk wr (N + 1) 39 (PrC (.slice none 0 0) zp)))
  case atStart => exact ⟨b0, L, [], none, 0, 0, rfl, rfl, Nat.le_refl _, HS0, PP1, (show OwnG _ _ _ _ _ _ from ownG_nil _ _ _), (show _ ∧ _ from ⟨rfl, rfl⟩), LL1, KK1, ZZ1⟩
  case round =>
    clear PP1 KK1 ZZ1 LL1
    obtain ⟨b, M, acc, pa, sn, sc, rfl, rfl, hMg, HSM, PM, OR, HWY, LR, KR, ZR⟩ := hrel
    have GG : Hid (N ≤ wr.heap.size) := (show _ ≤ _ from Nat.le_of_lt KR.out.lt)
    have hbe := build_end0
    rcases PM.out.cases with ⟨x, rfl, hB⟩ | ⟨hM2, bl, br, hB, hpl, hpr⟩
    · have BB := hide hB
      have re := PaC.end hB
      have heq := eqE (true, x.1, x.2) ze
      rw [decide_eq_false (by simp [ze])] at heq
      clear hB PM
      go_upto_region 8 with (first
        | (refine wpList_load_mid rfl 79 _ rfl b 32 rfl (EN.c (true, x.1, x.2)) _ re Tryd.underlying79 rfl (Tryd.sizeE _) ?_)
        | (refine wpList_build rfl 79 _ rfl (.agg (EN.c ze).toArray) (by simp only [execOp, List.map_toArray, List.map_nil, Sem.run_bind, Sem.run_pure]; exact congrArg (fun r => Result.andThen r _) (hbe _)) ?_)
        | fail)
      refine wp_region_tail Tryd.mixed (KS (fun i_ => match i_ with | 0 => .val (.slice pa sn sc) | 1 | 2 | 6 | 7 => .val (PT b) | 3 | 8 => .val (.pointer (some ⟨b, 32, none⟩)) | 4 => .val (.pointer (some ⟨b, 33, none⟩)) | 5 => .val (HV x.1) | 9 => .val (.pointer (some ⟨b, 65, none⟩)) | 10 => .val (HV x.2) | 11 => .val (.agg (PrC (.slice pa sn sc) (acc, true, x.1, x.2)).toArray) | _ => .free)) 58 rfl (by decide +kernel) 12 _ rfl (by decide +kernel) (KS_mono _) ?_ ?_
      · refine AllFrom.cons (fun a' w' hg hk hd => ?_) (AllFrom.cons (fun a' w' hg hk hd => ?_) (AllFrom.cons (fun a' w' hg hk hd => ?_) (AllFrom.cons (fun a' w' hg hk hd => ?_) (AllFrom.cons (fun a' w' hg hk hd => ?_) (AllFrom.cons (fun a' w' hg hk hd => ?_) (AllFrom.cons (fun a' w' hg hk hd => ?_) (AllFrom.cons (fun a' w' hg hk hd => ?_) (AllFrom.cons (fun a' w' hg hk hd => ?_) (AllFrom.cons (fun a' w' hg hk hd => ?_) (AllFrom.cons (fun a' w' hg hk hd => ?_) (AllFrom.cons (fun a' w' hg hk hd => ?_) AllFrom.nil)))))))))))
        · skip
          intro Q
          have e5 : a'.eval (.tmp 5) = .slice pa sn sc := hk.at 5 (by decide +kernel)
          exact wp_value _ (by simp only [execOp, e5]; rfl) (KS_mkv rfl rfl)
        · skip
          intro Q
          have e0 : a'.eval (.tmp 0) = PT b := hk.at 0 (by decide +kernel)
          exact wp_value _ (by simp only [execOp, e0]; rfl) (KS_mkv rfl rfl)
        · skip
          intro Q
          have e47 : a'.eval (.tmp 47) = PT b := KS_val (hd.val 1 47 (by decide +kernel)) rfl
          clear hd hk
          exact wp_value (PT b) (by simp only [execOp, e47]; go_simp) (KS_mkv rfl rfl)
        · skip
          intro Q
          have e48 : a'.eval (.tmp 48) = PT b := KS_val (hd.val 2 48 (by decide +kernel)) rfl
          clear hd hk
          exact wp_value (.pointer (some ⟨b, 32, none⟩)) (by simp only [execOp, e48]; go_simp) (KS_mkv rfl rfl)
        · skip
          intro Q
          have e49 : a'.eval (.tmp 49) = .pointer (some ⟨b, 32, none⟩) := KS_val (hd.val 3 49 (by decide +kernel)) rfl
          clear hd hk
          exact wp_value (.pointer (some ⟨b, 33, none⟩)) (by simp only [execOp, e49]; go_simp) (KS_mkv rfl rfl)
        · skip
          intro Q
          have e50 : a'.eval (.tmp 50) = .pointer (some ⟨b, 33, none⟩) := KS_val (hd.val 4 50 (by decide +kernel)) rfl
          exact wp_load_row 24 _ rfl _ _ e50 (By (x.1).1) _ (ENkey (PaC.end (BB.out.kept hg))) Tryd.underlying24 rfl (Tryd.sizeH _) (KS_mkv rfl rfl)
        · skip
          intro Q
          have e0 : a'.eval (.tmp 0) = PT b := hk.at 0 (by decide +kernel)
          exact wp_value _ (by simp only [execOp, e0]; rfl) (KS_mkv rfl rfl)
        · skip
          intro Q
          have e52 : a'.eval (.tmp 52) = PT b := KS_val (hd.val 6 52 (by decide +kernel)) rfl
          clear hd hk
          exact wp_value (PT b) (by simp only [execOp, e52]; go_simp) (KS_mkv rfl rfl)
        · skip
          intro Q
          have e53 : a'.eval (.tmp 53) = PT b := KS_val (hd.val 7 53 (by decide +kernel)) rfl
          clear hd hk
          exact wp_value (.pointer (some ⟨b, 32, none⟩)) (by simp only [execOp, e53]; go_simp) (KS_mkv rfl rfl)
        · skip
          intro Q
          have e54 : a'.eval (.tmp 54) = .pointer (some ⟨b, 32, none⟩) := KS_val (hd.val 8 54 (by decide +kernel)) rfl
          clear hd hk
          exact wp_value (.pointer (some ⟨b, 65, none⟩)) (by simp only [execOp, e54]; go_simp) (KS_mkv rfl rfl)
        · skip
          intro Q
          have e55 : a'.eval (.tmp 55) = .pointer (some ⟨b, 65, none⟩) := KS_val (hd.val 9 55 (by decide +kernel)) rfl
          exact wp_load_row 24 _ rfl _ _ e55 (By (x.2).1) _ (ENval (PaC.end (BB.out.kept hg))) Tryd.underlying24 rfl (Tryd.sizeH _) (KS_mkv rfl rfl)
        · skip
          intro Q
          have e46 : a'.eval (.tmp 46) = .slice pa sn sc := KS_val (hd.val 0 46 (by decide +kernel)) rfl
          have e51 : a'.eval (.tmp 51) = HV x.1 := KS_val (hd.val 5 51 (by decide +kernel)) rfl
          have e56 : a'.eval (.tmp 56) = HV x.2 := KS_val (hd.val 10 56 (by decide +kernel)) rfl
          exact wp_value (.agg (PrC (.slice pa sn sc) (acc, true, x.1, x.2)).toArray) (by simp only [execOp, List.map_toArray, List.map_cons, List.map_nil, e46, e51, e56, show Act.eval _ (.const (.bool true)) = .bool true from rfl, Sem.run_bind, Sem.run_pure]; exact congrArg (fun r => Result.andThen r _) (build_proof pa sn sc acc true x.1 x.2 _)) (KS_mkv rfl rfl)
      · intro a' w6 hsz hdf hk hall hg
        have e57 : a'.eval (.tmp 57) = .agg (PrC (.slice pa sn sc) (acc, true, x.1, x.2)).toArray := KS_val (hall 11 _ 57 (by decide) rfl rfl) rfl
        have e4 : a'.eval (.tmp 4) = .pointer (some ⟨N + 1, 0, none⟩) := hk.at 4 (by decide +kernel)
        have Z6 := ZR.out.kept hg
        have O6 := OR.out.kept hg
        have L6 : Below N w w6 := LR.out.trans (hg.mono GG.out)
        refine wp_store_blk 39 (.tmp 4) (.tmp 57) rfl (N + 1) (PrC (.slice none 0 0) zp) (PrC (.slice pa sn sc) (acc, true, x.1, x.2)) 39 e4 e57 Z6 (by rw [PrC_len, PrC_len]) (Tryd.sizePr _ _) (PrC_one _) ?_
        intro w7 hb7 hu7
        have hln : sn = acc.length := by obtain ⟨_, _, e⟩ := OR.out.form; simp only [Value.slice.injEq] at e; exact e.2.1
        have HP : prP L k = (acc, true, x.1, x.2) := by
          obtain ⟨g1, g2⟩ := HWY.out
          rw [wayP_one] at g1 g2
          rw [List.append_nil] at g1
          rw [prP_some g2.symm, ← g1]
        go_wp2
        refine bodyPost_ret (results_cell_row rfl _ _ (N + 1) 39 _ (0, 0) _ e4 hb7 Tryd.underlying39 rfl (by simpa using Tryd.sizePr _ _)) hdf ?_
        refine ⟨pa, sc, by simp only [hln], ?_, L6.trans (hu7.below (by omega) (by have := Z6.lt; omega))⟩
        have := O6.chg (F := fun j => j = N + 1) (Chg.of_but hu7 rfl) (fun j hj e => by subst e; obtain ⟨_, _, cur, hcur⟩ := O6.block hj; have h9 := (Z6.inj (show Blk _ _ _ cur.toList from by simpa [Blk] using hcur)).1; exact absurd h9 (by decide))
        rw [hln] at this
        exact this
    · have BB := hide hB
      have re := PaC.end hB
      have PL := hide hpl
      have PR := hide hpr
      have heq := eqE ze ze
      rw [decide_eq_true rfl] at heq
      have HST := hide (wayP_step HSM.out hM2 k)
      have HSS := hide (sideP_srt HSM.out k)
      have HSM2 := hide (Nat.lt_of_lt_of_le (sideP_len HSM.out hM2 k).2 hMg)
      have HL9 : Hid (∀ z : Sp, acc.length + [z].length ≤ 10000000) := (show _ from fun z => by
        have := acc_len HWY.out.1 HWL.out
        rw [List.length_singleton]
        omega)
      have HSM := HSM2
      obtain ⟨q, HQ⟩ : ∃ q, Hid (cutB M = q) := ⟨_, rfl⟩
      obtain ⟨c, HC⟩ : ∃ c, Hid (cutN M = c) := ⟨_, rfl⟩
      rw [HQ.out] at BB
      rw [HC.out] at PL PR
      have CB := hide (fun w => kBit_any k (q : Int) w)
      rw [bitZ_nat] at CB
      unfold bitN at CB
      obtain ⟨s, HS⟩ : ∃ s, Hid (bit k q = s) := ⟨_, rfl⟩
      rw [HS.out] at CB
      clear hB hpl hpr PM hM2 HSM2 hMg
      go_upto_region 5 with (first
        | (refine wpList_load_mid rfl 79 _ rfl b 32 rfl (EN.c ze) _ re Tryd.underlying79 rfl (Tryd.sizeE _) ?_)
        | (refine wpList_build rfl 79 _ rfl (.agg (EN.c ze).toArray) (by simp only [execOp, List.map_toArray, List.map_nil, Sem.run_bind, Sem.run_pure]; exact congrArg (fun r => Result.andThen r _) (hbe _)) ?_)
        | fail)
      clear re heq hbe
      cases s with
      | false =>
        refine wp_region_inv Tryd.mixed (KS (fun i_ => match i_ with | 0 => .val (HV k) | 1 | 2 => .val (PT b) | 3 => .val (.pointer (some ⟨b, 97, none⟩)) | 4 => .val (.int .i64 (q : Int)) | 5 | 6 => .val (.int .i64 0) | _ => .free)) 58 rfl (by decide +kernel) (KS_mono _) ?_ ?_
        · refine AllFrom.cons (fun a' w' hg hk hd => ?_) (AllFrom.cons (fun a' w' hg hk hd => ?_) (AllFrom.cons (fun a' w' hg hk hd => ?_) (AllFrom.cons (fun a' w' hg hk hd => ?_) (AllFrom.cons (fun a' w' hg hk hd => ?_) (AllFrom.cons (fun a' w' hg hk hd => ?_) (AllFrom.cons (fun a' w' hg hk hd => ?_) AllFrom.nil))))))
          · skip
            intro Q
            have e3 : a'.eval (.tmp 3) = .pointer (some ⟨N, 0, none⟩) := hk.at 3 (by decide +kernel)
            exact wp_load_row 24 _ rfl _ _ e3 (By (k).1) _ ((KR.out.kept hg).range0) Tryd.underlying24 rfl (Tryd.sizeH _) (KS_mkv rfl rfl)
          · skip
            intro Q
            have e0 : a'.eval (.tmp 0) = PT b := hk.at 0 (by decide +kernel)
            exact wp_value _ (by simp only [execOp, e0]; rfl) (KS_mkv rfl rfl)
          · skip
            intro Q
            have e17 : a'.eval (.tmp 17) = PT b := KS_val (hd.val 1 17 (by decide +kernel)) rfl
            clear hd hk
            exact wp_value (PT b) (by simp only [execOp, e17]; go_simp) (KS_mkv rfl rfl)
          · skip
            intro Q
            have e18 : a'.eval (.tmp 18) = PT b := KS_val (hd.val 2 18 (by decide +kernel)) rfl
            clear hd hk
            exact wp_value (.pointer (some ⟨b, 97, none⟩)) (by simp only [execOp, e18]; go_simp) (KS_mkv rfl rfl)
          · skip
            intro Q
            have e19 : a'.eval (.tmp 19) = .pointer (some ⟨b, 97, none⟩) := KS_val (hd.val 3 19 (by decide +kernel)) rfl
            have hc := PaC.bit (BB.out.kept hg)
            clear hd hk
            exact wp_value (.int .i64 (q : Int)) (by simp only [execOp, e19]; go_simp) (KS_mkv rfl rfl)
          · skip
            intro Q
            have e16 : a'.eval (.tmp 16) = HV k := KS_val (hd.val 0 16 (by decide +kernel)) rfl
            have e20 : a'.eval (.tmp 20) = .int .i64 (q : Int) := KS_val (hd.val 4 20 (by decide +kernel)) rfl
            refine wp_call 38 _ (run_enter 38 _ _ rfl (by kernel_rfl)) ?_
            simp only [List.map_toArray, List.map_nil, List.map_cons, e16, e20]
            refine (CB.out _).mono ?_
            rintro e w5 ⟨rfl, hb5⟩
            exact ⟨_, rfl, KS_mkv rfl rfl, hb5⟩
          · skip
            intro Q
            have e21 : a'.eval (.tmp 21) = .int .i64 0 := KS_val (hd.val 5 21 (by decide +kernel)) rfl
            exact wp_value _ (by simp only [execOp, e21]; rfl) (KS_mkv rfl rfl)
        · intro a' w5 hsz hdf hk hall hg
          have e16 : a'.eval (.tmp 16) = HV k := KS_val (hall 0 _ 16 rfl rfl) rfl
          have e17 : a'.eval (.tmp 17) = PT b := KS_val (hall 1 _ 17 rfl rfl) rfl
          have e18 : a'.eval (.tmp 18) = PT b := KS_val (hall 2 _ 18 rfl rfl) rfl
          have e19 : a'.eval (.tmp 19) = .pointer (some ⟨b, 97, none⟩) := KS_val (hall 3 _ 19 rfl rfl) rfl
          have e20 : a'.eval (.tmp 20) = .int .i64 (q : Int) := KS_val (hall 4 _ 20 rfl rfl) rfl
          have e21 : a'.eval (.tmp 21) = .int .i64 0 := KS_val (hall 5 _ 21 rfl rfl) rfl
          have e6 : a'.eval (.tmp 6) = .int .i64 0 := KS_val (hall 6 _ 6 rfl rfl) rfl
          have ha := act_puts 58 rfl hsz hdf hk [16, 17, 18, 19, 20, 21, 6] (by decide +kernel)
          simp only [puts, List.foldl_cons, List.foldl_nil, e16, e17, e18, e19, e20, e21, e6] at ha
          simp only [Act.put, List.setIfInBounds_toArray, List.set_cons_succ, List.set_cons_zero] at ha
          clear hall hk hsz hdf e16 e17 e18 e19 e20 e21 e6
          subst ha
          have BB5 := hide (BB.out.kept hg)
          have KR5 := hide (KR.out.kept hg)
          have ZR5 := hide (ZR.out.kept hg)
          have PL5 := hide (PL.out.kept hg)
          have PR5 := hide (PR.out.kept hg)
          have OR5 := hide (OR.out.kept hg)
          have LL5 : Hid (Below N w w5) := (show _ from LR.out.trans (hg.mono GG.out))
          have GG5 : Hid (N ≤ w5.heap.size) := (show _ ≤ _ from Nat.le_trans GG.out hg.size)
          clear hg BB KR ZR PL PR OR LR GG
          have HSD : Hid (sideP M k = M.take c) := (show _ = _ by unfold sideP; rw [HQ.out, HS.out]; simp [HC.out])
          have HOD : Hid (otherP M k = M.drop c) := (show _ = _ by unfold otherP; rw [HQ.out, HS.out]; simp [HC.out])
          have hro := PR5.out.root
          obtain ⟨ro, HRO⟩ : ∃ z, Hid (rootP (M.drop c) = z) := ⟨_, rfl⟩
          rw [HRO.out] at hro
          have HWY2 : Hid ((acc ++ [((q : Int), ro)]) ++ (wayP (sideP M k) k).1 = (wayP L k).1 ∧ (wayP (sideP M k) k).2 = (wayP L k).2) := (show _ ∧ _ by
            obtain ⟨g1, g2⟩ := HWY.out
            rw [HST.out, HOD.out, HRO.out, HQ.out] at g1
            rw [HST.out] at g2
            exact ⟨by rw [List.append_assoc]; exact g1, g2⟩)
          go_upto_region 6 with fail
          refine wp_region_tailsK Tryd.mixed (KS (fun i_ => match i_ with | 0 => .val (.slice pa sn sc) | 1 | 2 | 5 | 8 => .val (PT b) | 3 => .val (.pointer (some ⟨b, 97, none⟩)) | 4 => .val (.int .i64 (q : Int)) | 6 => .val (.int .i64 0) | 7 => .val (.int .i64 1) | 9 => .val (.pointer (some ⟨b, 98, none⟩)) | 10 => .val (.pointer (some ⟨b, 99, none⟩)) | 11 | 12 | 13 => .val (PT br) | 14 => .val (HV ro) | 15 => .val (.agg (SE.c ((q : Int), ro)).toArray) | 16 => .of (fun w v_ => RdG SE w v_ [((q : Int), ro)]) (fun _ _ _ hg h => h.kept hg) | _ => .free)) 58 rfl (by decide +kernel) 17 (by decide) (by decide +kernel) (KS_mono _) ?_ ?_
          · refine AllFrom.cons ⟨rfl, fun a' w' hg hk hd => ?_⟩ (AllFrom.cons ⟨rfl, fun a' w' hg hk hd => ?_⟩ (AllFrom.cons ⟨rfl, fun a' w' hg hk hd => ?_⟩ (AllFrom.cons ⟨rfl, fun a' w' hg hk hd => ?_⟩ (AllFrom.cons ⟨rfl, fun a' w' hg hk hd => ?_⟩ (AllFrom.cons ⟨rfl, fun a' w' hg hk hd => ?_⟩ (AllFrom.cons ⟨rfl, fun a' w' hg hk hd => ?_⟩ (AllFrom.cons ⟨rfl, fun a' w' hg hk hd => ?_⟩ (AllFrom.cons ⟨rfl, fun a' w' hg hk hd => ?_⟩ (AllFrom.cons ⟨rfl, fun a' w' hg hk hd => ?_⟩ (AllFrom.cons ⟨rfl, fun a' w' hg hk hd => ?_⟩ (AllFrom.cons ⟨rfl, fun a' w' hg hk hd => ?_⟩ (AllFrom.cons ⟨rfl, fun a' w' hg hk hd => ?_⟩ (AllFrom.cons ⟨rfl, fun a' w' hg hk hd => ?_⟩ (AllFrom.cons ⟨rfl, fun a' w' hg hk hd => ?_⟩ (AllFrom.cons ⟨rfl, fun a' w' hg hk hd => ?_⟩ (AllFrom.cons ⟨rfl, fun a' w' hg hk hd => ?_⟩ AllFrom.nil))))))))))))))))
            · skip
              intro Q
              have e5 : a'.eval (.tmp 5) = .slice pa sn sc := hk.at 5 (by decide +kernel)
              exact wp_value _ (by simp only [execOp, e5]; rfl) (KS_mkv rfl rfl)
            · skip
              intro Q
              have e0 : a'.eval (.tmp 0) = PT b := hk.at 0 (by decide +kernel)
              exact wp_value _ (by simp only [execOp, e0]; rfl) (KS_mkv rfl rfl)
            · skip
              intro Q
              have e23 : a'.eval (.tmp 23) = PT b := KS_val (hd.val 1 23 (by decide +kernel)) rfl
              clear hd hk
              exact wp_value (PT b) (by simp only [execOp, e23]; go_simp) (KS_mkv rfl rfl)
            · skip
              intro Q
              have e24 : a'.eval (.tmp 24) = PT b := KS_val (hd.val 2 24 (by decide +kernel)) rfl
              clear hd hk
              exact wp_value (.pointer (some ⟨b, 97, none⟩)) (by simp only [execOp, e24]; go_simp) (KS_mkv rfl rfl)
            · skip
              intro Q
              have e25 : a'.eval (.tmp 25) = .pointer (some ⟨b, 97, none⟩) := KS_val (hd.val 3 25 (by decide +kernel)) rfl
              have hc := PaC.bit (BB5.out.kept hg)
              clear hd hk
              exact wp_value (.int .i64 (q : Int)) (by simp only [execOp, e25]; go_simp) (KS_mkv rfl rfl)
            · skip
              intro Q
              have e0 : a'.eval (.tmp 0) = PT b := hk.at 0 (by decide +kernel)
              exact wp_value _ (by simp only [execOp, e0]; rfl) (KS_mkv rfl rfl)
            · skip
              intro Q
              have e6 : a'.eval (.tmp 6) = .int .i64 0 := hk.at 6 (by decide +kernel)
              exact wp_value _ (by simp only [execOp, e6]; rfl) (KS_mkv rfl rfl)
            · skip
              intro Q
              have e28 : a'.eval (.tmp 28) = .int .i64 0 := KS_val (hd.val 6 28 (by decide +kernel)) rfl
              clear hd hk
              exact wp_value (.int .i64 1) (by simp only [execOp, e28]; go_simp; first | done | rfl | decide) (KS_mkv rfl rfl)
            · skip
              intro Q
              have e27 : a'.eval (.tmp 27) = PT b := KS_val (hd.val 5 27 (by decide +kernel)) rfl
              clear hd hk
              exact wp_value (PT b) (by simp only [execOp, e27]; go_simp) (KS_mkv rfl rfl)
            · skip
              intro Q
              have e30 : a'.eval (.tmp 30) = PT b := KS_val (hd.val 8 30 (by decide +kernel)) rfl
              clear hd hk
              exact wp_value (.pointer (some ⟨b, 98, none⟩)) (by simp only [execOp, e30]; go_simp) (KS_mkv rfl rfl)
            · skip
              intro Q
              have e29 : a'.eval (.tmp 29) = .int .i64 1 := KS_val (hd.val 7 29 (by decide +kernel)) rfl
              have e31 : a'.eval (.tmp 31) = .pointer (some ⟨b, 98, none⟩) := KS_val (hd.val 9 31 (by decide +kernel)) rfl
              clear hd hk
              exact wp_value (.pointer (some ⟨b, 99, none⟩)) (by simp only [execOp, e29, e31]; go_simp) (KS_mkv rfl rfl)
            · skip
              intro Q
              have e32 : a'.eval (.tmp 32) = .pointer (some ⟨b, 99, none⟩) := KS_val (hd.val 10 32 (by decide +kernel)) rfl
              have hc := PaC.right (BB5.out.kept hg)
              clear hd hk
              exact wp_value (PT br) (by simp only [execOp, e32]; go_simp) (KS_mkv rfl rfl)
            · skip
              intro Q
              have e33 : a'.eval (.tmp 33) = PT br := KS_val (hd.val 11 33 (by decide +kernel)) rfl
              clear hd hk
              exact wp_value (PT br) (by simp only [execOp, e33]; go_simp) (KS_mkv rfl rfl)
            · skip
              intro Q
              have e34 : a'.eval (.tmp 34) = PT br := KS_val (hd.val 12 34 (by decide +kernel)) rfl
              clear hd hk
              exact wp_value (PT br) (by simp only [execOp, e34]; go_simp) (KS_mkv rfl rfl)
            · skip
              intro Q
              have e35 : a'.eval (.tmp 35) = PT br := KS_val (hd.val 13 35 (by decide +kernel)) rfl
              exact wp_load_row 24 _ rfl _ _ e35 (By (ro).1) _ (rangeAt_kept11 hro.1 hro.2 hg) Tryd.underlying24 rfl (Tryd.sizeH _) (KS_mkv rfl rfl)
            · skip
              intro Q
              have e26 : a'.eval (.tmp 26) = .int .i64 (q : Int) := KS_val (hd.val 4 26 (by decide +kernel)) rfl
              have e36 : a'.eval (.tmp 36) = HV ro := KS_val (hd.val 14 36 (by decide +kernel)) rfl
              exact wp_value (.agg (SE.c ((q : Int), ro)).toArray) (by simp only [execOp, List.map_toArray, List.map_cons, List.map_nil, e26, e36, Sem.run_bind, Sem.run_pure]; exact congrArg (fun r => Result.andThen r _) (build_step (q : Int) ro _)) (KS_mkv rfl rfl)
            · skip
              intro Q
              have e37 : a'.eval (.tmp 37) = .agg (SE.c ((q : Int), ro)).toArray := KS_val (hd.val 15 37 (by decide +kernel)) rfl
              exact wp_grow _ _ (by simp only [execOp, List.map_toArray, List.map_cons, List.map_nil, e37, Sem.run_bind, Sem.run_pure]; exact congrArg (fun r => Result.andThen r _) (build_row1s ((q : Int), ro) _)) ((Below.refl _ _).alloc (Nat.le_refl _) _) (KS_mko rfl (rdG_one w' 70 ((q : Int), ro)))
          · intro a' w6 hsz hdf hk hall hg
            have r38 := KS_of (hall 16 _ 38 (by decide) rfl rfl) rfl
            obtain ⟨x38, q38⟩ : ∃ v, a'.eval (.tmp 38) = v := ⟨_, rfl⟩
            rw [q38] at r38
            have e22 : a'.eval (.tmp 22) = .slice pa sn sc := KS_val (hall 0 _ 22 (by decide) rfl rfl) rfl
            have e23 : a'.eval (.tmp 23) = PT b := KS_val (hall 1 _ 23 (by decide) rfl rfl) rfl
            have e24 : a'.eval (.tmp 24) = PT b := KS_val (hall 2 _ 24 (by decide) rfl rfl) rfl
            have e25 : a'.eval (.tmp 25) = .pointer (some ⟨b, 97, none⟩) := KS_val (hall 3 _ 25 (by decide) rfl rfl) rfl
            have e26 : a'.eval (.tmp 26) = .int .i64 (q : Int) := KS_val (hall 4 _ 26 (by decide) rfl rfl) rfl
            have e27 : a'.eval (.tmp 27) = PT b := KS_val (hall 5 _ 27 (by decide) rfl rfl) rfl
            have e28 : a'.eval (.tmp 28) = .int .i64 0 := KS_val (hall 6 _ 28 (by decide) rfl rfl) rfl
            have e29 : a'.eval (.tmp 29) = .int .i64 1 := KS_val (hall 7 _ 29 (by decide) rfl rfl) rfl
            have e30 : a'.eval (.tmp 30) = PT b := KS_val (hall 8 _ 30 (by decide) rfl rfl) rfl
            have e31 : a'.eval (.tmp 31) = .pointer (some ⟨b, 98, none⟩) := KS_val (hall 9 _ 31 (by decide) rfl rfl) rfl
            have e32 : a'.eval (.tmp 32) = .pointer (some ⟨b, 99, none⟩) := KS_val (hall 10 _ 32 (by decide) rfl rfl) rfl
            have e33 : a'.eval (.tmp 33) = PT br := KS_val (hall 11 _ 33 (by decide) rfl rfl) rfl
            have e34 : a'.eval (.tmp 34) = PT br := KS_val (hall 12 _ 34 (by decide) rfl rfl) rfl
            have e35 : a'.eval (.tmp 35) = PT br := KS_val (hall 13 _ 35 (by decide) rfl rfl) rfl
            have e36 : a'.eval (.tmp 36) = HV ro := KS_val (hall 14 _ 36 (by decide) rfl rfl) rfl
            have e37 : a'.eval (.tmp 37) = .agg (SE.c ((q : Int), ro)).toArray := KS_val (hall 15 _ 37 (by decide) rfl rfl) rfl
            have e38 : a'.eval (.tmp 38) = x38 := q38
            obtain ⟨z39, e39⟩ : ∃ v, a'.eval (.tmp 39) = v := ⟨_, rfl⟩
            obtain ⟨z5, e5⟩ : ∃ v, a'.eval (.tmp 5) = v := ⟨_, rfl⟩
            refine ⟨rfl, ?_⟩
            refine wp_append_E (E := SE) Tryd.underlying37 infoS9 (by decide) (.tmp 22) (.tmp 38) rfl N (.slice pa sn sc) acc e22 (OR5.out.kept hg) _ [((q : Int), ro)] e38 r38 (HL9.out _) (Nat.le_trans GG5.out hg.size) ?_
            intro v9 w9 o9 g9 q9
            obtain ⟨p9, c9, hv9⟩ := o9.form
            obtain ⟨n9, hn9⟩ : ∃ z, (acc ++ [((q : Int), ro)]).length = z := ⟨_, rfl⟩
            rw [hn9] at hv9
            subst hv9
            clear hn9 q9
            refine ⟨_, rfl, ?_⟩
            refine ⟨rfl, ?_⟩
            refine Oper.wp_mono ?_ (wp_same (C := fun x => x = w9) (.slice p9 n9 c9) (by simp only [execOp]; rw [eval_put_same (by rw [hsz]; simp)]; rfl) rfl)
            rintro a2 w2 ⟨rfl, hw2⟩
            rw [hw2]
            clear hw2
            clear w2
            refine ⟨_, rfl, ?_⟩
            have ha := act_puts 58 rfl hsz hdf hk.all [22, 23, 24, 25, 26, 27, 28, 29, 30, 31, 32, 33, 34, 35, 36, 37, 38, 39, 5] (by decide +kernel)
            simp only [puts, List.foldl_cons, List.foldl_nil, e22, e23, e24, e25, e26, e27, e28, e29, e30, e31, e32, e33, e34, e35, e36, e37, e38, e39, e5] at ha
            simp only [Act.put, List.setIfInBounds_toArray, List.set_cons_succ, List.set_cons_zero] at ha
            have hput : ((a').put (some 39) (.slice p9 n9 c9)).put (some 5) (.slice p9 n9 c9) = { tmps := (a'.tmps.setIfInBounds 39 (.slice p9 n9 c9)).setIfInBounds 5 (.slice p9 n9 c9), defers := a'.defers } := rfl
            simp only [hput, wpSeq]
            subst ha
            have D9 : Chg (fun j => (Value.slice pa sn sc).ownBlock = some j) w5 w9 := (Chg.of_below hg).trans (Chg.of_grown g9 (fun k e _ => e))
            have HNO : ∀ {j : Nat} {T : TypeId} {cs : List Value}, Blk w5 j T cs → T ≠ 70 → ¬ (Value.slice pa sn sc).ownBlock = some j := fun hB hT e => by obtain ⟨_, _, cur, hcur⟩ := OR5.out.block e; exact hT (hB.inj (show Blk _ _ _ cur.toList from by simpa [Blk] using hcur)).1
            have PS9 := hide (PL5.out.chg D9 (fun j cs e hB => HNO hB (by decide) e))
            have BB9 := hide (BB5.out.chg D9 (HNO BB5.out (by decide)))
            have KR9 := hide (KR5.out.chg D9 (HNO KR5.out (by decide)))
            have ZR9 := hide (ZR5.out.chg D9 (HNO ZR5.out (by decide)))
            have O9 := hide o9
            have LL9 : Hid (Below N w w9) := (show _ from LL5.out.trans (D9.below GG5.out (fun j hj e => by have := (OR5.out.block e).1; omega)))
            clear hput hall hk hsz hdf hg o9 g9 D9 HNO r38 e22 e23 e24 e25 e26 e27 e28 e29 e30 e31 e32 e33 e34 e35 e36 e37 e38 e39 e5
            have cl := PaC.left BB9.out
            go_wp2_with fail
            go_roundg (sideP M k).length
            case measure => exact HSM.out
            case rel => exact ⟨bl, sideP M k, acc ++ [((q : Int), ro)], p9, n9, c9, rfl, rfl, Nat.le_refl _, HSS, (show Pt _ _ _ by rw [HSD.out]; exact PS9.out), O9, HWY2, LL9, KR9, ZR9⟩
      | true =>
        refine wp_region_inv Tryd.mixed (KS (fun i_ => match i_ with | 0 => .val (HV k) | 1 | 2 => .val (PT b) | 3 => .val (.pointer (some ⟨b, 97, none⟩)) | 4 => .val (.int .i64 (q : Int)) | 5 | 6 => .val (.int .i64 1) | _ => .free)) 58 rfl (by decide +kernel) (KS_mono _) ?_ ?_
        · refine AllFrom.cons (fun a' w' hg hk hd => ?_) (AllFrom.cons (fun a' w' hg hk hd => ?_) (AllFrom.cons (fun a' w' hg hk hd => ?_) (AllFrom.cons (fun a' w' hg hk hd => ?_) (AllFrom.cons (fun a' w' hg hk hd => ?_) (AllFrom.cons (fun a' w' hg hk hd => ?_) (AllFrom.cons (fun a' w' hg hk hd => ?_) AllFrom.nil))))))
          · skip
            intro Q
            have e3 : a'.eval (.tmp 3) = .pointer (some ⟨N, 0, none⟩) := hk.at 3 (by decide +kernel)
            exact wp_load_row 24 _ rfl _ _ e3 (By (k).1) _ ((KR.out.kept hg).range0) Tryd.underlying24 rfl (Tryd.sizeH _) (KS_mkv rfl rfl)
          · skip
            intro Q
            have e0 : a'.eval (.tmp 0) = PT b := hk.at 0 (by decide +kernel)
            exact wp_value _ (by simp only [execOp, e0]; rfl) (KS_mkv rfl rfl)
          · skip
            intro Q
            have e17 : a'.eval (.tmp 17) = PT b := KS_val (hd.val 1 17 (by decide +kernel)) rfl
            clear hd hk
            exact wp_value (PT b) (by simp only [execOp, e17]; go_simp) (KS_mkv rfl rfl)
          · skip
            intro Q
            have e18 : a'.eval (.tmp 18) = PT b := KS_val (hd.val 2 18 (by decide +kernel)) rfl
            clear hd hk
            exact wp_value (.pointer (some ⟨b, 97, none⟩)) (by simp only [execOp, e18]; go_simp) (KS_mkv rfl rfl)
          · skip
            intro Q
            have e19 : a'.eval (.tmp 19) = .pointer (some ⟨b, 97, none⟩) := KS_val (hd.val 3 19 (by decide +kernel)) rfl
            have hc := PaC.bit (BB.out.kept hg)
            clear hd hk
            exact wp_value (.int .i64 (q : Int)) (by simp only [execOp, e19]; go_simp) (KS_mkv rfl rfl)
          · skip
            intro Q
            have e16 : a'.eval (.tmp 16) = HV k := KS_val (hd.val 0 16 (by decide +kernel)) rfl
            have e20 : a'.eval (.tmp 20) = .int .i64 (q : Int) := KS_val (hd.val 4 20 (by decide +kernel)) rfl
            refine wp_call 38 _ (run_enter 38 _ _ rfl (by kernel_rfl)) ?_
            simp only [List.map_toArray, List.map_nil, List.map_cons, e16, e20]
            refine (CB.out _).mono ?_
            rintro e w5 ⟨rfl, hb5⟩
            exact ⟨_, rfl, KS_mkv rfl rfl, hb5⟩
          · skip
            intro Q
            have e21 : a'.eval (.tmp 21) = .int .i64 1 := KS_val (hd.val 5 21 (by decide +kernel)) rfl
            exact wp_value _ (by simp only [execOp, e21]; rfl) (KS_mkv rfl rfl)
        · intro a' w5 hsz hdf hk hall hg
          have e16 : a'.eval (.tmp 16) = HV k := KS_val (hall 0 _ 16 rfl rfl) rfl
          have e17 : a'.eval (.tmp 17) = PT b := KS_val (hall 1 _ 17 rfl rfl) rfl
          have e18 : a'.eval (.tmp 18) = PT b := KS_val (hall 2 _ 18 rfl rfl) rfl
          have e19 : a'.eval (.tmp 19) = .pointer (some ⟨b, 97, none⟩) := KS_val (hall 3 _ 19 rfl rfl) rfl
          have e20 : a'.eval (.tmp 20) = .int .i64 (q : Int) := KS_val (hall 4 _ 20 rfl rfl) rfl
          have e21 : a'.eval (.tmp 21) = .int .i64 1 := KS_val (hall 5 _ 21 rfl rfl) rfl
          have e6 : a'.eval (.tmp 6) = .int .i64 1 := KS_val (hall 6 _ 6 rfl rfl) rfl
          have ha := act_puts 58 rfl hsz hdf hk [16, 17, 18, 19, 20, 21, 6] (by decide +kernel)
          simp only [puts, List.foldl_cons, List.foldl_nil, e16, e17, e18, e19, e20, e21, e6] at ha
          simp only [Act.put, List.setIfInBounds_toArray, List.set_cons_succ, List.set_cons_zero] at ha
          clear hall hk hsz hdf e16 e17 e18 e19 e20 e21 e6
          subst ha
          have BB5 := hide (BB.out.kept hg)
          have KR5 := hide (KR.out.kept hg)
          have ZR5 := hide (ZR.out.kept hg)
          have PL5 := hide (PL.out.kept hg)
          have PR5 := hide (PR.out.kept hg)
          have OR5 := hide (OR.out.kept hg)
          have LL5 : Hid (Below N w w5) := (show _ from LR.out.trans (hg.mono GG.out))
          have GG5 : Hid (N ≤ w5.heap.size) := (show _ ≤ _ from Nat.le_trans GG.out hg.size)
          clear hg BB KR ZR PL PR OR LR GG
          have HSD : Hid (sideP M k = M.drop c) := (show _ = _ by unfold sideP; rw [HQ.out, HS.out]; simp [HC.out])
          have HOD : Hid (otherP M k = M.take c) := (show _ = _ by unfold otherP; rw [HQ.out, HS.out]; simp [HC.out])
          have hro := PL5.out.root
          obtain ⟨ro, HRO⟩ : ∃ z, Hid (rootP (M.take c) = z) := ⟨_, rfl⟩
          rw [HRO.out] at hro
          have HWY2 : Hid ((acc ++ [((q : Int), ro)]) ++ (wayP (sideP M k) k).1 = (wayP L k).1 ∧ (wayP (sideP M k) k).2 = (wayP L k).2) := (show _ ∧ _ by
            obtain ⟨g1, g2⟩ := HWY.out
            rw [HST.out, HOD.out, HRO.out, HQ.out] at g1
            rw [HST.out] at g2
            exact ⟨by rw [List.append_assoc]; exact g1, g2⟩)
          go_upto_region 6 with fail
          refine wp_region_tailsK Tryd.mixed (KS (fun i_ => match i_ with | 0 => .val (.slice pa sn sc) | 1 | 2 | 5 | 8 => .val (PT b) | 3 => .val (.pointer (some ⟨b, 97, none⟩)) | 4 => .val (.int .i64 (q : Int)) | 6 => .val (.int .i64 1) | 7 => .val (.int .i64 0) | 9 | 10 => .val (.pointer (some ⟨b, 98, none⟩)) | 11 | 12 | 13 => .val (PT bl) | 14 => .val (HV ro) | 15 => .val (.agg (SE.c ((q : Int), ro)).toArray) | 16 => .of (fun w v_ => RdG SE w v_ [((q : Int), ro)]) (fun _ _ _ hg h => h.kept hg) | _ => .free)) 58 rfl (by decide +kernel) 17 (by decide) (by decide +kernel) (KS_mono _) ?_ ?_
          · refine AllFrom.cons ⟨rfl, fun a' w' hg hk hd => ?_⟩ (AllFrom.cons ⟨rfl, fun a' w' hg hk hd => ?_⟩ (AllFrom.cons ⟨rfl, fun a' w' hg hk hd => ?_⟩ (AllFrom.cons ⟨rfl, fun a' w' hg hk hd => ?_⟩ (AllFrom.cons ⟨rfl, fun a' w' hg hk hd => ?_⟩ (AllFrom.cons ⟨rfl, fun a' w' hg hk hd => ?_⟩ (AllFrom.cons ⟨rfl, fun a' w' hg hk hd => ?_⟩ (AllFrom.cons ⟨rfl, fun a' w' hg hk hd => ?_⟩ (AllFrom.cons ⟨rfl, fun a' w' hg hk hd => ?_⟩ (AllFrom.cons ⟨rfl, fun a' w' hg hk hd => ?_⟩ (AllFrom.cons ⟨rfl, fun a' w' hg hk hd => ?_⟩ (AllFrom.cons ⟨rfl, fun a' w' hg hk hd => ?_⟩ (AllFrom.cons ⟨rfl, fun a' w' hg hk hd => ?_⟩ (AllFrom.cons ⟨rfl, fun a' w' hg hk hd => ?_⟩ (AllFrom.cons ⟨rfl, fun a' w' hg hk hd => ?_⟩ (AllFrom.cons ⟨rfl, fun a' w' hg hk hd => ?_⟩ (AllFrom.cons ⟨rfl, fun a' w' hg hk hd => ?_⟩ AllFrom.nil))))))))))))))))
            · skip
              intro Q
              have e5 : a'.eval (.tmp 5) = .slice pa sn sc := hk.at 5 (by decide +kernel)
              exact wp_value _ (by simp only [execOp, e5]; rfl) (KS_mkv rfl rfl)
            · skip
              intro Q
              have e0 : a'.eval (.tmp 0) = PT b := hk.at 0 (by decide +kernel)
              exact wp_value _ (by simp only [execOp, e0]; rfl) (KS_mkv rfl rfl)
            · skip
              intro Q
              have e23 : a'.eval (.tmp 23) = PT b := KS_val (hd.val 1 23 (by decide +kernel)) rfl
              clear hd hk
              exact wp_value (PT b) (by simp only [execOp, e23]; go_simp) (KS_mkv rfl rfl)
            · skip
              intro Q
              have e24 : a'.eval (.tmp 24) = PT b := KS_val (hd.val 2 24 (by decide +kernel)) rfl
              clear hd hk
              exact wp_value (.pointer (some ⟨b, 97, none⟩)) (by simp only [execOp, e24]; go_simp) (KS_mkv rfl rfl)
            · skip
              intro Q
              have e25 : a'.eval (.tmp 25) = .pointer (some ⟨b, 97, none⟩) := KS_val (hd.val 3 25 (by decide +kernel)) rfl
              have hc := PaC.bit (BB5.out.kept hg)
              clear hd hk
              exact wp_value (.int .i64 (q : Int)) (by simp only [execOp, e25]; go_simp) (KS_mkv rfl rfl)
            · skip
              intro Q
              have e0 : a'.eval (.tmp 0) = PT b := hk.at 0 (by decide +kernel)
              exact wp_value _ (by simp only [execOp, e0]; rfl) (KS_mkv rfl rfl)
            · skip
              intro Q
              have e6 : a'.eval (.tmp 6) = .int .i64 1 := hk.at 6 (by decide +kernel)
              exact wp_value _ (by simp only [execOp, e6]; rfl) (KS_mkv rfl rfl)
            · skip
              intro Q
              have e28 : a'.eval (.tmp 28) = .int .i64 1 := KS_val (hd.val 6 28 (by decide +kernel)) rfl
              clear hd hk
              exact wp_value (.int .i64 0) (by simp only [execOp, e28]; go_simp; first | done | rfl | decide) (KS_mkv rfl rfl)
            · skip
              intro Q
              have e27 : a'.eval (.tmp 27) = PT b := KS_val (hd.val 5 27 (by decide +kernel)) rfl
              clear hd hk
              exact wp_value (PT b) (by simp only [execOp, e27]; go_simp) (KS_mkv rfl rfl)
            · skip
              intro Q
              have e30 : a'.eval (.tmp 30) = PT b := KS_val (hd.val 8 30 (by decide +kernel)) rfl
              clear hd hk
              exact wp_value (.pointer (some ⟨b, 98, none⟩)) (by simp only [execOp, e30]; go_simp) (KS_mkv rfl rfl)
            · skip
              intro Q
              have e29 : a'.eval (.tmp 29) = .int .i64 0 := KS_val (hd.val 7 29 (by decide +kernel)) rfl
              have e31 : a'.eval (.tmp 31) = .pointer (some ⟨b, 98, none⟩) := KS_val (hd.val 9 31 (by decide +kernel)) rfl
              clear hd hk
              exact wp_value (.pointer (some ⟨b, 98, none⟩)) (by simp only [execOp, e29, e31]; go_simp) (KS_mkv rfl rfl)
            · skip
              intro Q
              have e32 : a'.eval (.tmp 32) = .pointer (some ⟨b, 98, none⟩) := KS_val (hd.val 10 32 (by decide +kernel)) rfl
              have hc := PaC.left (BB5.out.kept hg)
              clear hd hk
              exact wp_value (PT bl) (by simp only [execOp, e32]; go_simp) (KS_mkv rfl rfl)
            · skip
              intro Q
              have e33 : a'.eval (.tmp 33) = PT bl := KS_val (hd.val 11 33 (by decide +kernel)) rfl
              clear hd hk
              exact wp_value (PT bl) (by simp only [execOp, e33]; go_simp) (KS_mkv rfl rfl)
            · skip
              intro Q
              have e34 : a'.eval (.tmp 34) = PT bl := KS_val (hd.val 12 34 (by decide +kernel)) rfl
              clear hd hk
              exact wp_value (PT bl) (by simp only [execOp, e34]; go_simp) (KS_mkv rfl rfl)
            · skip
              intro Q
              have e35 : a'.eval (.tmp 35) = PT bl := KS_val (hd.val 13 35 (by decide +kernel)) rfl
              exact wp_load_row 24 _ rfl _ _ e35 (By (ro).1) _ (rangeAt_kept11 hro.1 hro.2 hg) Tryd.underlying24 rfl (Tryd.sizeH _) (KS_mkv rfl rfl)
            · skip
              intro Q
              have e26 : a'.eval (.tmp 26) = .int .i64 (q : Int) := KS_val (hd.val 4 26 (by decide +kernel)) rfl
              have e36 : a'.eval (.tmp 36) = HV ro := KS_val (hd.val 14 36 (by decide +kernel)) rfl
              exact wp_value (.agg (SE.c ((q : Int), ro)).toArray) (by simp only [execOp, List.map_toArray, List.map_cons, List.map_nil, e26, e36, Sem.run_bind, Sem.run_pure]; exact congrArg (fun r => Result.andThen r _) (build_step (q : Int) ro _)) (KS_mkv rfl rfl)
            · skip
              intro Q
              have e37 : a'.eval (.tmp 37) = .agg (SE.c ((q : Int), ro)).toArray := KS_val (hd.val 15 37 (by decide +kernel)) rfl
              exact wp_grow _ _ (by simp only [execOp, List.map_toArray, List.map_cons, List.map_nil, e37, Sem.run_bind, Sem.run_pure]; exact congrArg (fun r => Result.andThen r _) (build_row1s ((q : Int), ro) _)) ((Below.refl _ _).alloc (Nat.le_refl _) _) (KS_mko rfl (rdG_one w' 70 ((q : Int), ro)))
          · intro a' w6 hsz hdf hk hall hg
            have r38 := KS_of (hall 16 _ 38 (by decide) rfl rfl) rfl
            obtain ⟨x38, q38⟩ : ∃ v, a'.eval (.tmp 38) = v := ⟨_, rfl⟩
            rw [q38] at r38
            have e22 : a'.eval (.tmp 22) = .slice pa sn sc := KS_val (hall 0 _ 22 (by decide) rfl rfl) rfl
            have e23 : a'.eval (.tmp 23) = PT b := KS_val (hall 1 _ 23 (by decide) rfl rfl) rfl
            have e24 : a'.eval (.tmp 24) = PT b := KS_val (hall 2 _ 24 (by decide) rfl rfl) rfl
            have e25 : a'.eval (.tmp 25) = .pointer (some ⟨b, 97, none⟩) := KS_val (hall 3 _ 25 (by decide) rfl rfl) rfl
            have e26 : a'.eval (.tmp 26) = .int .i64 (q : Int) := KS_val (hall 4 _ 26 (by decide) rfl rfl) rfl
            have e27 : a'.eval (.tmp 27) = PT b := KS_val (hall 5 _ 27 (by decide) rfl rfl) rfl
            have e28 : a'.eval (.tmp 28) = .int .i64 1 := KS_val (hall 6 _ 28 (by decide) rfl rfl) rfl
            have e29 : a'.eval (.tmp 29) = .int .i64 0 := KS_val (hall 7 _ 29 (by decide) rfl rfl) rfl
            have e30 : a'.eval (.tmp 30) = PT b := KS_val (hall 8 _ 30 (by decide) rfl rfl) rfl
            have e31 : a'.eval (.tmp 31) = .pointer (some ⟨b, 98, none⟩) := KS_val (hall 9 _ 31 (by decide) rfl rfl) rfl
            have e32 : a'.eval (.tmp 32) = .pointer (some ⟨b, 98, none⟩) := KS_val (hall 10 _ 32 (by decide) rfl rfl) rfl
            have e33 : a'.eval (.tmp 33) = PT bl := KS_val (hall 11 _ 33 (by decide) rfl rfl) rfl
            have e34 : a'.eval (.tmp 34) = PT bl := KS_val (hall 12 _ 34 (by decide) rfl rfl) rfl
            have e35 : a'.eval (.tmp 35) = PT bl := KS_val (hall 13 _ 35 (by decide) rfl rfl) rfl
            have e36 : a'.eval (.tmp 36) = HV ro := KS_val (hall 14 _ 36 (by decide) rfl rfl) rfl
            have e37 : a'.eval (.tmp 37) = .agg (SE.c ((q : Int), ro)).toArray := KS_val (hall 15 _ 37 (by decide) rfl rfl) rfl
            have e38 : a'.eval (.tmp 38) = x38 := q38
            obtain ⟨z39, e39⟩ : ∃ v, a'.eval (.tmp 39) = v := ⟨_, rfl⟩
            obtain ⟨z5, e5⟩ : ∃ v, a'.eval (.tmp 5) = v := ⟨_, rfl⟩
            refine ⟨rfl, ?_⟩
            refine wp_append_E (E := SE) Tryd.underlying37 infoS9 (by decide) (.tmp 22) (.tmp 38) rfl N (.slice pa sn sc) acc e22 (OR5.out.kept hg) _ [((q : Int), ro)] e38 r38 (HL9.out _) (Nat.le_trans GG5.out hg.size) ?_
            intro v9 w9 o9 g9 q9
            obtain ⟨p9, c9, hv9⟩ := o9.form
            obtain ⟨n9, hn9⟩ : ∃ z, (acc ++ [((q : Int), ro)]).length = z := ⟨_, rfl⟩
            rw [hn9] at hv9
            subst hv9
            clear hn9 q9
            refine ⟨_, rfl, ?_⟩
            refine ⟨rfl, ?_⟩
            refine Oper.wp_mono ?_ (wp_same (C := fun x => x = w9) (.slice p9 n9 c9) (by simp only [execOp]; rw [eval_put_same (by rw [hsz]; simp)]; rfl) rfl)
            rintro a2 w2 ⟨rfl, hw2⟩
            rw [hw2]
            clear hw2
            clear w2
            refine ⟨_, rfl, ?_⟩
            have ha := act_puts 58 rfl hsz hdf hk.all [22, 23, 24, 25, 26, 27, 28, 29, 30, 31, 32, 33, 34, 35, 36, 37, 38, 39, 5] (by decide +kernel)
            simp only [puts, List.foldl_cons, List.foldl_nil, e22, e23, e24, e25, e26, e27, e28, e29, e30, e31, e32, e33, e34, e35, e36, e37, e38, e39, e5] at ha
            simp only [Act.put, List.setIfInBounds_toArray, List.set_cons_succ, List.set_cons_zero] at ha
            have hput : ((a').put (some 39) (.slice p9 n9 c9)).put (some 5) (.slice p9 n9 c9) = { tmps := (a'.tmps.setIfInBounds 39 (.slice p9 n9 c9)).setIfInBounds 5 (.slice p9 n9 c9), defers := a'.defers } := rfl
            simp only [hput, wpSeq]
            subst ha
            have D9 : Chg (fun j => (Value.slice pa sn sc).ownBlock = some j) w5 w9 := (Chg.of_below hg).trans (Chg.of_grown g9 (fun k e _ => e))
            have HNO : ∀ {j : Nat} {T : TypeId} {cs : List Value}, Blk w5 j T cs → T ≠ 70 → ¬ (Value.slice pa sn sc).ownBlock = some j := fun hB hT e => by obtain ⟨_, _, cur, hcur⟩ := OR5.out.block e; exact hT (hB.inj (show Blk _ _ _ cur.toList from by simpa [Blk] using hcur)).1
            have PS9 := hide (PR5.out.chg D9 (fun j cs e hB => HNO hB (by decide) e))
            have BB9 := hide (BB5.out.chg D9 (HNO BB5.out (by decide)))
            have KR9 := hide (KR5.out.chg D9 (HNO KR5.out (by decide)))
            have ZR9 := hide (ZR5.out.chg D9 (HNO ZR5.out (by decide)))
            have O9 := hide o9
            have LL9 : Hid (Below N w w9) := (show _ from LL5.out.trans (D9.below GG5.out (fun j hj e => by have := (OR5.out.block e).1; omega)))
            clear hput hall hk hsz hdf hg o9 g9 D9 HNO r38 e22 e23 e24 e25 e26 e27 e28 e29 e30 e31 e32 e33 e34 e35 e36 e37 e38 e39 e5
            have cl := PaC.right BB9.out
            go_wp2_with fail
            go_roundg (sideP M k).length
            case measure => exact HSM.out
            case rel => exact ⟨br, sideP M k, acc ++ [((q : Int), ro)], p9, n9, c9, rfl, rfl, Nat.le_refl _, HSS, (show Pt _ _ _ by rw [HSD.out]; exact PS9.out), O9, HWY2, LL9, KR9, ZR9⟩
#print axioms prove_any
end Go.Proofs.YtooffljimdklfaaDoor
