/-
  The reference's Versions and Get: what the calls do.
-/
import Derived.Test.YtgaoionnfkbhaaaRfA
namespace Go.Proofs.Ytgaoionnfkbhaaa
open Go.RowKit
theorem versS_take {s : SP} {rs : List RK} {i : Nat} (h : i < rs.length) : versS s ((rs.take (i + 1)).map (·.1)) = versS s ((rs.take i).map (·.1)) + (s.ch rs[i].1).length := by
  unfold versS
  rw [List.take_succ_eq_append_getElem h, List.map_append, List.map_append, List.sum_append]
  simp
theorem versS_le {s : SP} {rs : List RK} (i : Nat) : versS s ((rs.take i).map (·.1)) ≤ versS s (rs.map (·.1)) := by
  have e : versS s (rs.map (·.1)) = versS s ((rs.take i).map (·.1)) + versS s ((rs.drop i).map (·.1)) := by
    unfold versS
    rw [← List.sum_append, ← List.map_append, ← List.map_append, List.take_append_drop]
  omega
theorem rdV_len {w : World} {a : Option Addr} {n cap : Nat} {L : List Ver} (h : RdV w (.slice a n cap) L) : n = L.length := by
  obtain ⟨a', c', e⟩ := h.slice
  cases e
  rfl
set_option maxRecDepth 100000 in
theorem vVersions_any {w : World} {R : Nat} {vr : Value} {rs : List RK} {s : SP} (h : RS w R vr rs s) (hb : versS s (rs.map (·.1)) ≤ 1000000000) : Calls Try.prog 16 #[.pointer (some ⟨R, 0, none⟩)] w fun e w' => e = .returned (.int .i64 (versS s (rs.map (·.1)) : Int)) ∧ Below w.heap.size w w' := by
  have HS := hide h
  obtain ⟨a, cp, rfl⟩ := h.own.rd.slice
  have hn : rs.length ≤ 9223372036854775807 := Nat.le_trans h.own.rd.cap h.own.rd.max
  clear h
  have hz := Zrkey
  obtain ⟨n_, HN⟩ : ∃ n, Hid (rs.length = n) := ⟨_, rfl⟩
  rw [HN.out] at HS hn
  have c0 := HS.out.d.cell (j := 0) rfl
  go_enter Try.func16, Try.ntmps16
  go_wp2_with fail
  go_loopg [3, 11] n_ (fun g y x wr => ∃ (i t : Nat), g + i = n_ ∧ y = .int .i64 (t : Int) ∧ x = .int .i64 (i : Int) ∧ Hid (versS s ((rs.take i).map (·.1)) = t) ∧ Hid (Below w.heap.size w wr))
  case atStart => exact ⟨0, 0, by omega, rfl, rfl, rfl, Below.refl _ _⟩
  case round =>
    obtain ⟨i, t, hgi, rfl, rfl, HW, LR⟩ := hrel
    by_cases hlt : i < n_
    · have q2 : (i : Int) < (n_ : Int) := by omega
      have hrd := hide (HS.out.own.rd.kept LR.out)
      obtain ⟨b, off, rfl, hlb4, hx⟩ := (hrd.out).nth (by omega)
      have hlt' : i < rs.length := by rw [HN.out]; exact hlt
      have hr : wr.rangeAt b (off + i * 2) (RKC rs[i]) := hx i hlt'
      obtain ⟨p, HPp⟩ : ∃ p, Hid (rs[i] = p) := ⟨rs[i], (show rs[i] = rs[i] from rfl)⟩
      rw [HPp.out] at hr
      clear hx hlb4
      go_upto_region 5 with (first
        | (refine wpList_load_mid rfl 69 _ rfl b (off + i * 2) rfl (RKC p) _ hr Try.underlying69 rfl Try.size69 ?_)
        | (refine wpList_store_new rfl 69 _ _ rfl wr _ (RKC p).toArray _ rfl rfl rfl Try.size69 rfl (all_one (RKC_one p)) ?_)
        | fail)
      obtain ⟨E, HE⟩ : ∃ E, Hid (wr.heap.size = E) := ⟨_, rfl⟩
      rw [HE.out]
      obtain ⟨w4, hw4⟩ : ∃ x, x = wr.alloc (.cells (RKC p).toArray 69 (0, 0)) := ⟨_, rfl⟩
      rw [← hw4]
      have G4 : Hid (Below wr.heap.size wr w4) := (show Below _ _ _ by rw [hw4]; exact (Below.refl _ _).alloc (Nat.le_refl _) _)
      have B4 : Hid (Blk w4 E 69 (RKC p)) := (show Blk _ _ _ _ by rw [hw4, ← HE.out]; exact Blk.new wr 69 (RKC p))
      clear hw4 hr
      have L4 : Hid (Below w.heap.size w w4) := LR.out.trans (G4.out.mono LR.out.size)
      have HC := hide ((HS.out.ch p (by rw [← HPp.out]; exact List.getElem_mem hlt')).kept L4.out)
      have HT : Hid (versS s ((rs.take (i + 1)).map (·.1)) = t + (s.ch p.1).length) := (show _ = _ by rw [versS_take hlt', HW.out, HPp.out])
      have hle := versS_le (s := s) (rs := rs) (i + 1)
      obtain ⟨ky, ca, cn, cc⟩ := p
      have hcn := rdV_len HC.out
      simp only [rkv] at HC HT hcn
      rw [HT.out] at hle
      rw [← hcn] at HT hle
      have d1 := B4.out.cell (j := 1) rfl
      simp only at d1
      have q3 : IntKind.i64.wrap ((t : Int) + (cn : Int)) = ((t + cn : Nat) : Int) := by rw [wr64 (by omega) (by omega)]; omega
      clear hcn
      go_wp2_with fail
      go_roundg (gk - 1)
      case measure => omega
      case rel => exact ⟨i + 1, t + cn, by omega, rfl, by go_num, HT, L4⟩
    · obtain rfl : i = n_ := by omega
      have q2 : ¬ (i : Int) < (i : Int) := by omega
      have HY : Hid (versS s (rs.map (·.1)) = t) := (show _ = _ by
        have := HW.out
        rw [List.take_of_length_le (Nat.le_of_eq HN.out)] at this
        exact this)
      go_wp2_with fail
      go_ret
      exact ⟨by rw [HY.out]; rfl, LR.out⟩
set_option maxRecDepth 100000 in
set_option maxHeartbeats 1000000 in
theorem vGet_any {w : World} {R : Nat} {vr : Value} {rs : List RK} {s : SP} (h : RS w R vr rs s) (k : ByteArray) (n : Int) : Calls Try.prog 32 #[.pointer (some ⟨R, 0, none⟩), .string k, .int .i64 n] w fun e w' => e = .returned (.tuple #[.string (getS s k n).1, .int .i64 (getS s k n).2]) ∧ Below w.heap.size w w' := by
  have CM := hide (vmay_any h n)
  obtain ⟨r, HR⟩ : ∃ r, Hid (mayP s n = r) := ⟨_, rfl⟩
  rw [HR.out] at CM
  have HS := hide h
  obtain ⟨a, cp, rfl⟩ := h.own.rd.slice
  have hn : rs.length ≤ 9223372036854775807 := Nat.le_trans h.own.rd.cap h.own.rd.max
  clear h
  have hz := Zrkey
  obtain ⟨n_, HN⟩ : ∃ n, Hid (rs.length = n) := ⟨_, rfl⟩
  rw [HN.out] at HS hn
  have c0 := HS.out.d.cell (j := 0) rfl
  go_enter Try.func32, Try.ntmps32
  go_wp2_with fail
  refine CM.out.mono ?_
  rintro e w_ ⟨rfl, hw⟩
  subst w_
  by_cases hr : r = 0
  · subst hr
    have hz' := Zrver
    go_wp2_with fail
    go_loopg [24] n_ (fun g x wr => ∃ (i : Nat), g + i = n_ ∧ x = .int .i64 (i : Int) ∧ Hid (∀ y ∈ rs.take i, y.1 = k → (getP (s.ch k) n).2 = false) ∧ Hid (Below w.heap.size w wr))
    case atStart => exact ⟨0, by omega, rfl, (show ∀ y ∈ rs.take 0, _ from fun y hy => by cases hy), Below.refl _ _⟩
    case round =>
      obtain ⟨i, hgi, rfl, HW, LR⟩ := hrel
      by_cases hlt : i < n_
      · have q2 : (i : Int) < (n_ : Int) := by omega
        have hrd := hide (HS.out.own.rd.kept LR.out)
        obtain ⟨b, off, rfl, hlb4, hx⟩ := (hrd.out).nth (by omega)
        have hlt' : i < rs.length := by rw [HN.out]; exact hlt
        have hr : wr.rangeAt b (off + i * 2) (RKC rs[i]) := hx i hlt'
        obtain ⟨p, HPp⟩ : ∃ p, Hid (rs[i] = p) := ⟨rs[i], (show rs[i] = rs[i] from rfl)⟩
        rw [HPp.out] at hr
        clear hx hlb4
        go_upto_region 7 with (first
          | (refine wpList_load_mid rfl 69 _ rfl b (off + i * 2) rfl (RKC p) _ hr Try.underlying69 rfl Try.size69 ?_)
          | (refine wpList_store_new rfl 69 _ _ rfl wr _ (RKC p).toArray _ rfl rfl rfl Try.size69 rfl (all_one (RKC_one p)) ?_)
          | fail)
        obtain ⟨E, HE⟩ : ∃ E, Hid (wr.heap.size = E) := ⟨_, rfl⟩
        rw [HE.out]
        obtain ⟨w4, hw4⟩ : ∃ x, x = wr.alloc (.cells (RKC p).toArray 69 (0, 0)) := ⟨_, rfl⟩
        rw [← hw4]
        have G4 : Hid (Below wr.heap.size wr w4) := (show Below _ _ _ by rw [hw4]; exact (Below.refl _ _).alloc (Nat.le_refl _) _)
        have B4 : Hid (Blk w4 E 69 (RKC p)) := (show Blk _ _ _ _ by rw [hw4, ← HE.out]; exact Blk.new wr 69 (RKC p))
        clear hw4 hr
        have L4 : Hid (Below w.heap.size w w4) := LR.out.trans (G4.out.mono LR.out.size)
        have HC := hide ((HS.out.ch p (by rw [← HPp.out]; exact List.getElem_mem hlt')).kept L4.out)
        have HT : Hid ((p.1 = k → (getP (s.ch k) n).2 = false) → ∀ y ∈ rs.take (i + 1), y.1 = k → (getP (s.ch k) n).2 = false) := (show _ → _ from fun hp y hy => by
          rw [List.take_succ_eq_append_getElem hlt', HPp.out, List.mem_append, List.mem_singleton] at hy
          rcases hy with hy | rfl
          · exact HW.out y hy
          · exact hp)
        obtain ⟨ky, ca, cn, cc⟩ := p
        simp only [rkv] at HC HT
        have d0 := B4.out.cell (j := 0) rfl
        have d1 := B4.out.cell (j := 1) rfl
        simp only at d0 d1
        cases hkk : ky.toList == k.toList with
        | false =>
          have HT' := hide (HT.out (fun e => by rw [e] at hkk; simp at hkk))
          go_wp2_with fail
          go_roundg (gk - 1)
          case measure => omega
          case rel => exact ⟨i + 1, by omega, by go_num, HT', L4⟩
        | true =>
          have hek : ky = k := by rw [beq_iff_eq] at hkk; exact ba_inj.1 hkk
          obtain ⟨g1, g2, HG⟩ : ∃ x y, Hid (getP (s.ch ky) n = (x, y)) := ⟨_, _, rfl⟩
          have CG := hide (kget_any HC.out n)
          rw [HG.out] at CG
          rw [hek] at HG
          clear hek
          go_wp2_with fail
          refine CG.out.mono ?_
          rintro e w5 ⟨rfl, hb5⟩
          have L5 : Hid (Below w.heap.size w w5) := L4.out.trans (hb5.mono L4.out.size)
          clear hb5 CG
          have A6 : Hid (Below w5.heap.size w5 (w5.alloc (.cells (VC g1).toArray 87 (0, 0)))) := (Below.refl _ _).alloc (Nat.le_refl _) _
          have B6 := hide (Blk.new w5 87 (VC g1))
          have L6 : Hid (Below w.heap.size w (w5.alloc (.cells (VC g1).toArray 87 (0, 0)))) := L5.out.trans (A6.out.mono L5.out.size)
          have e1 := B6.out.cell (j := 1) rfl
          cases g2 with
          | true =>
            have HY : Hid (getS s k n = (g1.2.1, 0)) := (show _ = _ by unfold getS; rw [if_pos HR.out, HG.out]; rfl)
            go_wp2_with (first
              | (refine wpList_store_new rfl 87 _ _ rfl w5 _ (VC g1).toArray _ rfl rfl rfl Try.size87 rfl (all_one (VC_one g1)) ?_)
              | fail)
            go_ret2
            exact ⟨by rw [HY.out]; rfl, L6.out⟩
          | false =>
            have HT' := hide (HT.out (fun _ => by rw [HG.out]))
            go_wp2_with (first
              | (refine wpList_store_new rfl 87 _ _ rfl w5 _ (VC g1).toArray _ rfl rfl rfl Try.size87 rfl (all_one (VC_one g1)) ?_)
              | fail)
            go_roundg (gk - 1)
            case measure => omega
            case rel => exact ⟨i + 1, by omega, by go_num, HT', L6⟩
      · obtain rfl : i = n_ := by omega
        have q2 : ¬ (i : Int) < (i : Int) := by omega
        have HY : Hid (getS s k n = (em, 8)) := (show _ = _ by
          have h0 : (getP (s.ch k) n).2 = false := by
            by_cases hk : k ∈ rs.map (·.1)
            · obtain ⟨y, hy, hyk⟩ := List.mem_map.1 hk
              exact HW.out y (by rw [List.take_of_length_le (Nat.le_of_eq HN.out)]; exact hy) hyk
            · have : s.ch k = [] := Classical.not_not.1 fun hne => hk ((HS.out.inv.mem k).2 hne)
              rw [this]
              rfl
          unfold getS
          rw [if_pos HR.out, h0]
          rfl)
        go_wp2_with fail
        go_ret2
        exact ⟨by rw [HY.out]; rfl, LR.out⟩
  · have q1 : (r != 0) = true := by simp [hr]
    have HY : Hid (getS s k n = (em, r)) := (show _ = _ by unfold getS; rw [HR.out, if_neg hr])
    go_wp2_with fail
    go_ret2
    exact ⟨by rw [HY.out]; rfl, Below.refl _ _⟩
#print axioms vVersions_any
#print axioms vGet_any
end Go.Proofs.Ytgaoionnfkbhaaa
