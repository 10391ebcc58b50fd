/-
  BufferMost: what the call does.
-/
import Derived.Test.YtfjlkncliljjnaaBfZ
namespace Go.Proofs.Ytfjlkncliljjnaa
open Go.RowKit
/-- The key of a round. -/
def keyI (s : ByteArray) (i : Nat) : ByteArray := s ++ ⟨#[UInt8.ofNat (97 + i / 10), UInt8.ofNat (48 + i % 10)]⟩
theorem keyI_size (s : ByteArray) (i : Nat) : (keyI s i).size = s.size + 2 := by simp [keyI]; rfl
theorem keyI_inj {s : ByteArray} {i j : Nat} (hi : i < 70) (hj : j < 70) (h : keyI s i = keyI s j) : i = j := by
  have h1 := congrArg (fun b : ByteArray => b.data.toList) h
  simp only [keyI, ByteArray.data_append, Array.toList_append, List.append_cancel_left_eq, List.cons.injEq, and_true] at h1
  obtain ⟨g1, g2⟩ := h1
  have e1 := congrArg UInt8.toNat g1
  have e2 := congrArg UInt8.toNat g2
  simp only [UInt8.toNat_ofNat'] at e1 e2
  omega
def tX : ByteArray := ⟨#[120]⟩
def tY : ByteArray := ⟨#[121]⟩
/-- What there is behind i rounds. -/
def mostL (s : ByteArray) : Nat → List Pr
  | 0 => []
  | i + 1 => wrB (mostL s i) (keyI s i, tX, false)
theorem most_all {s : ByteArray} (hs : s.size ≤ 40) : ∀ i, i ≤ 70 → Bs (mostL s i) ∧ (mostL s i).length = min i 64 ∧ (∀ j, j < 70 → ((getB (mostL s i) (keyI s j)).isSome = decide (j < min i 64)))
  | 0, _ => ⟨List.Pairwise.nil, rfl, fun j _ => by simp [mostL, getB]⟩
  | i + 1, hi => by
    obtain ⟨h1, h2, h3⟩ := most_all hs i (by omega)
    have hE : wrE (mostL s i) (keyI s i, tX, false) = if i < 64 then 0 else 13 := by
      unfold wrE
      have k1 := keyI_size s i
      simp only
      rw [if_neg (by omega), if_neg (by decide)]
      have h4 := h3 i (by omega)
      by_cases hlt : i < 64
      · rw [if_neg (fun h => by omega), if_pos hlt]
      · rw [if_pos ⟨by rw [decide_eq_false (by omega)] at h4; simpa using h4, by omega⟩, if_neg hlt]
    show Bs (wrB _ _) ∧ (wrB _ _).length = _ ∧ _
    refine ⟨wrB_srt h1, ?_, fun j hj => ?_⟩
    · unfold wrB
      by_cases hlt : i < 64
      · rw [if_pos (by rw [hE, if_pos hlt]), insB_len h1]
        have h4 := h3 i (by omega)
        rw [decide_eq_false (by omega)] at h4
        rw [if_neg (by rw [h4]; simp)]
        omega
      · rw [if_neg (by rw [hE, if_neg hlt]; decide)]
        omega
    · show (getB (wrB (mostL s i) (keyI s i, tX, false)) (keyI s j)).isSome = _
      unfold wrB
      by_cases hlt : i < 64
      · rw [if_pos (by rw [hE, if_pos hlt]), insB_get h1]
        by_cases e : keyI s i = keyI s j
        · have := keyI_inj (by omega) hj e
          rw [if_pos e, decide_eq_true (by omega)]
          rfl
        · have hne : i ≠ j := fun e' => e (by rw [e'])
          rw [if_neg e, h3 j hj]
          congr 1
          rw [eq_iff_iff]
          omega
      · rw [if_neg (by rw [hE, if_neg hlt]; decide), h3 j hj]
        congr 1
        rw [eq_iff_iff]
        omega
theorem most_e {s : ByteArray} (hs : s.size ≤ 40) {i : Nat} (hi : i < 70) : wrE (mostL s i) (keyI s i, tX, false) = if i < 64 then 0 else 13 := by
  obtain ⟨h1, h2, h3⟩ := most_all hs i (by omega)
  unfold wrE
  have k1 := keyI_size s i
  simp only
  rw [if_neg (by omega), if_neg (by decide)]
  have h4 := h3 i (by omega)
  by_cases hlt : i < 64
  · rw [if_neg (fun h => by omega), if_pos hlt]
  · rw [if_pos ⟨by rw [decide_eq_false (by omega)] at h4; simpa using h4, by omega⟩, if_neg hlt]
/-- A key that is there may be written again. -/
theorem again {L : List Pr} {p : Pr} (hs : Bs L) (h1 : 1 ≤ p.1.size) (h2 : p.1.size ≤ 64) (h3 : p.2.1.size ≤ 256) (hg : (getB L p.1).isSome = true) : wrE L p = 0 ∧ (wrB L p).length = L.length := by
  have hE : wrE L p = 0 := by
    unfold wrE
    rw [if_neg (by omega), if_neg (by omega), if_neg]
    rintro ⟨g1, _⟩
    rw [Option.isNone_iff_eq_none] at g1
    rw [g1] at hg
    cases hg
  refine ⟨hE, ?_⟩
  unfold wrB
  rw [if_pos hE, insB_len hs, if_pos hg]
theorem rd_blk {w : World} {G M : Nat} {T : TypeId} {l : List UInt8} (h : Blk w G T (By l)) (hl : l.length = M) (hM : M ≤ 1000000) : Rd w (.slice (some ⟨G, 0, none⟩) M M) l := by
  refine ⟨_, M, by rw [hl], by rw [hl]; exact Nat.le_refl _, by simp only [maxLen]; omega, fun h => by simp at h, fun _ => ⟨G, 0, rfl, h.lt, fun j u hj => ?_⟩⟩
  rw [Nat.zero_add]
  exact h.cell hj
theorem key_conv (i : Nat) (hi : i < 70) (w : World) : (convert 61 9 (.slice (some ⟨w.heap.size, 0, none⟩) 2 2)).run Try.prog (w.alloc (.cells #[.int .u8 (97 + (i : Int) / 10), .int .u8 (48 + (i : Int) % 10)] 5 (0, 0))) = .ok (.string ⟨#[UInt8.ofNat (97 + i / 10), UInt8.ofNat (48 + i % 10)]⟩) (w.alloc (.cells #[.int .u8 (97 + (i : Int) / 10), .int .u8 (48 + (i : Int) % 10)] 5 (0, 0))) := by
  have e1 : ((UInt8.ofNat (97 + i / 10)).toNat : Int) = 97 + (i : Int) / 10 := by simp only [UInt8.toNat_ofNat']; omega
  have e2 : ((UInt8.ofNat (48 + i % 10)).toNat : Int) = 48 + (i : Int) % 10 := by simp only [UInt8.toNat_ofNat']; omega
  have hb := Blk.new w 5 (By [UInt8.ofNat (97 + i / 10), UInt8.ofNat (48 + i % 10)])
  have hr := rd_blk (M := 2) hb rfl (by decide)
  simp only [By, List.map_cons, List.map_nil, e1, e2] at hr
  exact hr.conv 61 9 Try.underlying61 Try.underlying5 Try.underlying9
set_option maxHeartbeats 4000000 in
set_option maxRecDepth 100000 in
theorem bufferMost_any (n : Nat) (hn : n ≤ 18446744073709551615) (s : ByteArray) (w : World) : Calls Try.prog 8 #[.int .u64 (n : Int), .string s] w fun e w' => e = .returned (.bool true) ∧ Below w.heap.size w w' := by
  obtain ⟨N, HN⟩ : ∃ N, Hid (w.heap.size = N) := ⟨_, rfl⟩
  rw [HN.out]
  obtain ⟨sz, HSZ⟩ : ∃ z, Hid (s.size = z) := ⟨_, rfl⟩
  have hls : ∀ W, (Builtin.len_ #[9] 3 #[.string s]).run Try.prog W = .ok (.int .i64 (sz : Int)) W := fun W => by rw [← HSZ.out]; simp [Builtin.len_, go_sem]
  have CLW := hide (lives_any w)
  rw [HN.out] at CLW
  by_cases h40 : 40 < sz
  · have q0 : decide (40 < (sz : Int)) = true := by simp; omega
    go_enter Try.func8, Try.ntmps8
    go_wp2_with fail
    refine CLW.out.mono ?_
    rintro e w2 ⟨rfl, hb2⟩
    have HB := hide hb2
    clear hb2
    go_wp2_with fail
    go_ret
    exact ⟨rfl, HB.out⟩
  · have q0 : decide (40 < (sz : Int)) = false := by simp; omega
    have CN := hide (bNew_any w)
    rw [HN.out] at CN
    go_enter Try.func8, Try.ntmps8
    go_wp2_with fail
    refine CN.out.mono ?_
    rintro e w1 ⟨D, M, rfl, h1, hD, hM, hb1⟩
    have H1 := hide h1
    have L1 := hide hb1
    clear h1 hb1 CN CLW
    go_wp2_with fail
    obtain ⟨K, hK1, hK2, hK3⟩ : ∃ K : Nat, (60 + (n : Int) % 10) = (K : Int) ∧ 60 ≤ K ∧ K < 70 := ⟨60 + n % 10, by omega, by omega, by omega⟩
    rw [hK1]
    have hs40 : s.size ≤ 40 := by rw [HSZ.out]; omega
    have HS40 := hide hs40
    clear hK1 hn hs40
    go_loopg [7] (K + 1) (fun g z wr => ∃ i : Nat, i ≤ K ∧ g + i = K + 1 ∧ z = .int .i64 (i : Int) ∧ Hid (BAt wr D M (mostL s i)) ∧ Hid (Below N w wr))
    case atStart => exact ⟨0, Nat.zero_le _, by omega, rfl, H1, L1⟩
    case round =>
      obtain ⟨i, hi, hg, rfl, HI, BL⟩ := hrel
      clear H1 L1
      by_cases hlt : i < K
      · have hlt' : (i : Int) < (K : Int) := by omega
        have q2 : decide ((i : Int) < (K : Int)) = true := by simp; omega
        have hcv := key_conv i (by omega) wr
        obtain ⟨b1, HB1⟩ : ∃ b, Hid (UInt8.ofNat (97 + i / 10) = b) := ⟨_, rfl⟩
        obtain ⟨b2, HB2⟩ : ∃ b, Hid (UInt8.ofNat (48 + i % 10) = b) := ⟨_, rfl⟩
        rw [HB1.out, HB2.out] at hcv
        have hadd : ∀ W, (Op.stringOp .add s ⟨#[b1, b2]⟩).run Try.prog W = .ok (.string (keyI s i)) W := fun W => by
          unfold keyI
          rw [HB1.out, HB2.out]
          exact run_string_add_sum W s _ (by have : (⟨#[b1, b2]⟩ : ByteArray).size = 2 := rfl; have := HS40.out; omega)
        have hb2 : Below wr.heap.size wr (wr.alloc (.cells #[.int .u8 (97 + (i : Int) / 10), .int .u8 (48 + (i : Int) % 10)] 5 (0, 0))) := (Below.refl _ _).alloc (Nat.le_refl _) _
        have CP := bPut_any (HI.out.kept hb2) (keyI s i) tX (by rw [keyI_size]; have := HS40.out; unfold maxLen; omega)
        rw [most_e HS40.out (by omega)] at CP
        have HCP := hide CP
        have L2 := hide hb2
        clear CP hb2
        go_wp2_with fail
        refine HCP.out.mono ?_
        rintro e w3 ⟨rfl, h3, hc3⟩
        have H3 : Hid (BAt w3 D M (mostL s (i + 1))) := (show BAt _ _ _ _ from h3)
        have L3 : Hid (Below N w w3) := (show _ from (BL.out.trans (L2.out.mono (by have := BL.out.size; have := HN.out; omega))).trans (hc3.below (by have := BL.out.size; have := HN.out; have := L2.out.size; omega) (fun k hk e => by omega)))
        clear h3 hc3 HCP L2 hcv hadd
        by_cases h64 : i < 64
        · have q3 : decide ((i : Int) < 64) = true := by simp; omega
          have q4 : decide (64 ≤ (i : Int)) = false := by simp; omega
          rw [if_pos h64]
          go_wp2_with fail
          go_roundg (K - i)
          case measure => omega
          case rel => exact ⟨i + 1, by omega, by omega, by go_num, H3, L3⟩
        · have q3 : decide ((i : Int) < 64) = false := by simp; omega
          have q4 : decide (64 ≤ (i : Int)) = true := by simp; omega
          rw [if_neg h64]
          go_wp2_with fail
          go_roundg (K - i)
          case measure => omega
          case rel => exact ⟨i + 1, by omega, by omega, by go_num, H3, L3⟩
      · obtain rfl : i = K := by omega
        have hlt' : ¬ (i : Int) < (i : Int) := by omega
        have q2 : decide ((i : Int) < (i : Int)) = false := by simp
        obtain ⟨m1, m2, m3⟩ := most_all HS40.out i (by omega)
        obtain ⟨L, HL⟩ : ∃ L, Hid (mostL s i = L) := ⟨_, rfl⟩
        rw [HL.out] at HI m1 m2 m3
        obtain ⟨T, HT⟩ : ∃ T, Hid (min i 64 = T) := ⟨_, rfl⟩
        rw [HT.out] at m2 m3
        have k0 : keyI s 0 = s ++ ⟨#[97, 48]⟩ := rfl
        have k1 : keyI s 1 = s ++ ⟨#[97, 49]⟩ := rfl
        have z0 := keyI_size s 0
        have z1 := keyI_size s 1
        have hT : 60 ≤ T := by have := HT.out; omega
        have A0 := again (p := (keyI s 0, em, true)) m1 (by show 1 ≤ (keyI s 0).size; omega) (by show (keyI s 0).size ≤ 64; have := HS40.out; omega) (by show em.size ≤ 256; decide) (by rw [m3 0 (by omega)]; simp; omega)
        have S0 := wrB_srt (p := (keyI s 0, em, true)) m1
        have G1 : (getB (wrB L (keyI s 0, em, true)) (keyI s 1)).isSome = true := by
          unfold wrB
          rw [if_pos A0.1, insB_get m1]
          split
          · rfl
          · rw [m3 1 (by omega)]; simp; omega
        have A1 := again (p := (keyI s 1, tY, false)) S0 (by show 1 ≤ (keyI s 1).size; omega) (by show (keyI s 1).size ≤ 64; have := HS40.out; omega) (by show tY.size ≤ 256; decide) G1
        have CLn := hide (bLen_any HI.out)
        have CWr := hide (writes_any HI.out)
        have HM2 := hide m2
        have HA0 := hide A0
        have HA1 := hide A1
        have HK0 := hide k0
        have HK1 := hide k1
        have HZ0 := hide z0
        have HZ1 := hide z1
        rw [m2] at CLn
        clear m1 m2 m3 A0 A1 S0 G1 k0 k1 z0 z1
        have qq : ((T : Int) == (T : Int)) = true := by simp
        have a0 : ∀ W, (Op.stringOp .add s ⟨#[97, 48]⟩).run Try.prog W = .ok (.string (keyI s 0)) W := fun W => run_string_add_sum W s _ (by have : (⟨#[97, 48]⟩ : ByteArray).size = 2 := rfl; have := HS40.out; omega)
        have a1 : ∀ W, (Op.stringOp .add s ⟨#[97, 49]⟩).run Try.prog W = .ok (.string (keyI s 1)) W := fun W => run_string_add_sum W s _ (by have : (⟨#[97, 49]⟩ : ByteArray).size = 2 := rfl; have := HS40.out; omega)
        by_cases h64 : 64 < i
        · have q3 : decide (64 < (i : Int)) = true := by simp; omega
          have q5 : ((T : Int) == 64) = true := by have := HT.out; simp; omega
          go_wp2_with fail
          refine CLn.out.mono ?_
          rintro e w_ ⟨rfl, hw⟩
          subst w_
          go_wp2_with fail
          refine CWr.out.mono ?_
          rintro e w5 ⟨v5, rfl, o5, hb5⟩
          obtain ⟨a5, c5, rfl⟩ := o5.form
          rw [HM2.out]
          have CD := bDrop_any (HI.out.kept hb5) (keyI s 0) (by rw [HZ0.out]; have := HS40.out; unfold maxLen; omega)
          rw [HA0.out.1] at CD
          have HCD := hide CD
          have L5 : Hid (Below N w w5) := (show _ from BL.out.trans (hb5.mono (by have := BL.out.size; have := HN.out; omega)))
          clear CD o5 hb5 CLn CWr
          go_wp2_with fail
          refine HCD.out.mono ?_
          rintro e w6 ⟨rfl, h6, hc6⟩
          have CP := bPut_any h6 (keyI s 1) tY (by rw [HZ1.out]; have := HS40.out; unfold maxLen; omega)
          rw [HA1.out.1] at CP
          have HCP := hide CP
          have L6 : Hid (Below N w w6) := (show _ from L5.out.trans (hc6.below (by have := L5.out.size; have := HN.out; omega) (fun k hk e => by omega)))
          clear CP h6 hc6 HCD L5
          go_wp2_with fail
          refine HCP.out.mono ?_
          rintro e w7 ⟨rfl, h7, hc7⟩
          have CL7 := bLen_any h7
          rw [HA1.out.2, HA0.out.2, HM2.out] at CL7
          have HC7 := hide CL7
          have L7 : Hid (Below N w w7) := (show _ from L6.out.trans (hc7.below (by have := L6.out.size; have := HN.out; omega) (fun k hk e => by omega)))
          clear CL7 h7 hc7 HCP L6
          go_wp2_with fail
          refine HC7.out.mono ?_
          rintro e w_ ⟨rfl, hw⟩
          subst w_
          have CE := hide (lives_any w7)
          go_wp2_with fail
          refine CE.out.mono ?_
          rintro e w8 ⟨rfl, hb8⟩
          have L8 : Hid (Below N w w8) := (show _ from L7.out.trans (hb8.mono (by have := L7.out.size; have := HN.out; omega)))
          clear hb8
          go_wp2_with fail
          go_ret
          exact ⟨rfl, L8.out⟩
        · have q3 : decide (64 < (i : Int)) = false := by simp; omega
          have q5 : ((T : Int) == (i : Int)) = true := by have := HT.out; simp; omega
          go_wp2_with fail
          refine CLn.out.mono ?_
          rintro e w_ ⟨rfl, hw⟩
          subst w_
          go_wp2_with fail
          refine CWr.out.mono ?_
          rintro e w5 ⟨v5, rfl, o5, hb5⟩
          obtain ⟨a5, c5, rfl⟩ := o5.form
          rw [HM2.out]
          have CD := bDrop_any (HI.out.kept hb5) (keyI s 0) (by rw [HZ0.out]; have := HS40.out; unfold maxLen; omega)
          rw [HA0.out.1] at CD
          have HCD := hide CD
          have L5 : Hid (Below N w w5) := (show _ from BL.out.trans (hb5.mono (by have := BL.out.size; have := HN.out; omega)))
          clear CD o5 hb5 CLn CWr
          go_wp2_with fail
          refine HCD.out.mono ?_
          rintro e w6 ⟨rfl, h6, hc6⟩
          have CP := bPut_any h6 (keyI s 1) tY (by rw [HZ1.out]; have := HS40.out; unfold maxLen; omega)
          rw [HA1.out.1] at CP
          have HCP := hide CP
          have L6 : Hid (Below N w w6) := (show _ from L5.out.trans (hc6.below (by have := L5.out.size; have := HN.out; omega) (fun k hk e => by omega)))
          clear CP h6 hc6 HCD L5
          go_wp2_with fail
          refine HCP.out.mono ?_
          rintro e w7 ⟨rfl, h7, hc7⟩
          have CL7 := bLen_any h7
          rw [HA1.out.2, HA0.out.2, HM2.out] at CL7
          have HC7 := hide CL7
          have L7 : Hid (Below N w w7) := (show _ from L6.out.trans (hc7.below (by have := L6.out.size; have := HN.out; omega) (fun k hk e => by omega)))
          clear CL7 h7 hc7 HCP L6
          go_wp2_with fail
          refine HC7.out.mono ?_
          rintro e w_ ⟨rfl, hw⟩
          subst w_
          have CE := hide (lives_any w7)
          go_wp2_with fail
          refine CE.out.mono ?_
          rintro e w8 ⟨rfl, hb8⟩
          have L8 : Hid (Below N w w8) := (show _ from L7.out.trans (hb8.mono (by have := L7.out.size; have := HN.out; omega)))
          clear hb8
          go_wp2_with fail
          go_ret
          exact ⟨rfl, L8.out⟩
#print axioms bufferMost_any
end Go.Proofs.Ytfjlkncliljjnaa
