/-
  sum.Open and that of indentureref02, whatever bytes come in.
-/
import Derived.Test.YtmopfipkbjfhoaaDoorOpen
namespace Go.Proofs.YtmopfipkbjfhoaaDoor
open Go.RowKit

/-- What both calls of the name Open do. -/
def OpenPost (l : List UInt8) (w : World) (e : Ending) (w' : World) : Prop :=
  ∃ v', e = .returned (.tuple #[v', .int .i64 ((opn l).2.1 : Int), .bool (opn l).2.2]) ∧ Rd w' v' (opn l).1 ∧ Below w.heap.size w w'
theorem openPost_no {l : List UInt8} {w w' : World} (h : opn l = ([], 0, false)) (hb : Below w.heap.size w w') : OpenPost l w (.returned (.tuple #[.slice none 0 0, .int .i64 0, .bool false])) w' :=
  ⟨.slice none 0 0, by rw [h]; rfl, by rw [h]; exact Rd_nil _, hb⟩

set_option maxRecDepth 100000 in
theorem open_any (v : Value) (l : List UInt8) (w : World) (hT : Tab w) (hr : Rd w v l) (hl : l.length ≤ 140737488300000) :
    Calls Tryd.prog 17 #[v] w (OpenPost l w) := by
  rcases gn_cases l with hg | ⟨n, k, hg⟩
  · have HO : Hid (opn l = ([], 0, false)) := opn_no hg (by simp)
    go_enter Tryd.func17, Tryd.ntmps17
    go_wp2_with fail
    refine (getNum_any _ l _ hr hl).mono ?_
    rw [hg]
    rintro e w1 ⟨rfl, hb1⟩
    go_wp2_with fail
    go_ret3
    exact openPost_no HO.out hb1
  · by_cases h1 : n ≤ 8192
    · by_cases h2 : k + n + 4 ≤ l.length
      · refine (open_fits v l w hT hr hl n k hg h1 h2 _ rfl).mono ?_
        rintro e w' ⟨v', rfl, hr', hb'⟩
        by_cases h3 : be4 (crc (l.take (k + n))) = (l.drop (k + n)).take 4
        · have e3 : (be4 (crc (l.take (k + n))) == (l.drop (k + n)).take 4) = true := by simpa using h3
          have HO := opn_yes hg h1 h2 h3
          rw [e3] at hr' ⊢
          exact ⟨v', by rw [HO]; rfl, by rw [HO]; exact hr', hb'⟩
        · have e3 : (be4 (crc (l.take (k + n))) == (l.drop (k + n)).take 4) = false := by simpa using h3
          have HO := opn_no hg (fun h => h3 h.2.2.2)
          rw [e3] at hr' ⊢
          exact ⟨v', by rw [HO]; rfl, by rw [HO]; exact hr', hb'⟩
      · refine (open_short v l w hT hr hl n k hg h1 h2).mono ?_
        rintro e w' ⟨rfl, hb'⟩
        exact openPost_no (opn_no hg (fun h => h2 h.2.2.1)) hb'
    · have HO : Hid (opn l = ([], 0, false)) := opn_no hg (fun h => h1 h.2.1)
      have h1' : (8192 : Int) < n := by omega
      clear h1
      go_enter Tryd.func17, Tryd.ntmps17
      go_wp2_with fail
      refine (getNum_any _ l _ hr hl).mono ?_
      rw [hg]
      rintro e w1 ⟨rfl, hb1⟩
      clear hg
      go_wp2_with fail
      go_ret3
      exact openPost_no HO.out hb1
#print axioms open_any

theorem heads_eq {S R : List UInt8} (hS : S.length = 4) (hR : R.length = 4) (h : ∀ j, j < 4 → S[j]? = R[j]?) : S = R := by
  apply List.ext_getElem?
  intro j
  by_cases hj : j < 4
  · exact h j hj
  · rw [List.getElem?_eq_none (by omega), List.getElem?_eq_none (by omega)]
theorem byte_nat (x : UInt8) (m : Nat) : UInt8.ofNat m = x ↔ (x.toNat : Int) = (m : Int) % 256 := by
  rw [← UInt8.toNat_inj]
  simp
  omega
theorem mid_get (l : List UInt8) (e i : Nat) (hi : i < 4) (h : e + i < l.length) : ((l.drop e).take 4)[i]? = some l[e + i] := by
  rw [List.getElem?_take_of_lt hi, List.getElem?_drop, List.getElem?_eq_getElem h]
theorem same_byte {S l : List UInt8} {e i m : Nat} (hS : S[i]? = some (UInt8.ofNat m)) (hi : i < 4) (h : e + i < l.length) : S[i]? = ((l.drop e).take 4)[i]? ↔ (l[e + i].toNat : Int) = (m : Int) % 256 := by
  rw [mid_get l e i hi h, hS, ← byte_nat]
  simp
theorem upto_succ {S R : List UInt8} {i : Nat} (h : ∀ j, j < i → S[j]? = R[j]?) (hi : S[i]? = R[i]?) : ∀ j, j < i + 1 → S[j]? = R[j]? := by
  intro j hj
  by_cases e : j = i
  · subst e; exact hi
  · exact h j (by omega)

set_option maxRecDepth 100000 in
set_option maxHeartbeats 1000000 in
theorem refOpen_any (v : Value) (l : List UInt8) (w : World) (hr : Rd w v l) (hl : l.length ≤ 140737488300000) :
    Calls Tryd.prog 18 #[v] w (OpenPost l w) := by
  obtain ⟨i0, hi, hz0, hz1, hz2⟩ := info_parts Tryd.info5
  rcases gn_cases l with hg | ⟨n, k, hg⟩
  · have HO : Hid (opn l = ([], 0, false)) := opn_no hg (by simp)
    go_enter Tryd.func18, Tryd.ntmps18
    go_wp2_with fail
    refine (refGetNum_any _ l _ hr hl).mono ?_
    rw [hg]
    rintro e w1 ⟨rfl, hb1⟩
    go_wp2_with fail
    go_ret3
    exact openPost_no HO.out hb1
  · obtain ⟨hk1, hk9, hkl, hn8, -⟩ := gn_ok hg
    by_cases h1 : n ≤ 8192
    · have hr0 := hr
      obtain ⟨a, cap, rfl, hcap, -, -, h4⟩ := hr
      obtain ⟨b, off, rfl, hbw, hc⟩ := h4 (by omega)
      clear h4
      have h1' : ¬ (8192 : Int) < n := by omega
      by_cases h2 : k + n + 4 ≤ l.length
      · have h2' : ¬ (l.length : Int) - k < (n : Int) + 4 := by omega
        obtain ⟨E, hE⟩ : ∃ E, E = k + n := ⟨_, rfl⟩
        have HE : Hid (E = k + n) := hE
        go_enter Tryd.func18, Tryd.ntmps18
        go_wp2_with fail
        refine (refGetNum_any _ l _ hr0 hl).mono ?_
        rw [hg]
        rintro e w1 ⟨rfl, hb1⟩
        have HG : Hid (gn l = (n, k, true)) := hg
        clear hg
        go_wp2_with fail
        have hcap2 := hr0.kept hb1
        refine (refOf_any _ (l.take (k + n)) _ (hcap2.take (k + n) (by omega)) (by simp; omega)).mono ?_
        rintro e w2 ⟨rfl, hw2⟩
        subst hw2
        obtain ⟨s, HS⟩ : ∃ s, Hid (s = crc (l.take (k + n))) := ⟨_, rfl⟩
        rw [← HS.out]
        have hs := s.isLt
        have HC : Hid (∀ j u, (By l)[j]? = some u → w2.cell? ⟨b, off + j, none⟩ = some u) := (show ∀ j u, _ → _ from fun j u hj => (hb1.cell (p := ⟨b, off + j, none⟩) hbw).trans (hc j u hj))
        clear hc
        go_wp2_with fail
        go_loopg [10] 5 (fun g z wr => wr = w2 ∧ ∃ i : Nat, i ≤ 4 ∧ g + i = 5 ∧ z = .int .i64 i ∧ Hid (∀ j, j < i → (be4 s)[j]? = ((l.drop (k + n)).take 4)[j]?))
        case atStart => exact ⟨rfl, 0, by omega, rfl, rfl, fun j hj => by omega⟩
        case round =>
          obtain ⟨hw, i, hi4, hgi, rfl, HJ⟩ := hrel
          subst hw
          by_cases hlt : i < 4
          · obtain rfl | rfl | rfl | rfl : i = 0 ∨ i = 1 ∨ i = 2 ∨ i = 3 := by omega
            · have hx : k + n + 0 < l.length := by omega
              have hcell : wr.cell? ⟨b, off + (k + n), none⟩ = _ := HC.out (k + n + 0) _ (By_get hx)
              have HB : Hid ((be4 s)[0]? = ((l.drop (k + n)).take 4)[0]? ↔ (l[k + n + 0].toNat : Int) = ((s.toNat / 16777216 : Nat) : Int) % 256) := same_byte (m := s.toNat / 16777216) rfl (by decide) hx
              generalize l[k + n + 0].toNat = x at *
              by_cases hq : (x : Int) = (s.toNat : Int) / 16777216
              · have hq' : ((x : Int) != (s.toNat : Int) / 16777216) = false := by simpa using hq
                have HJ2 : Hid (∀ j, j < 0 + 1 → (be4 s)[j]? = ((l.drop (k + n)).take 4)[j]?) := upto_succ HJ.out (HB.out.2 (by omega))
                clear hq
                go_wp2_with fail
                go_roundg 4
                case measure => omega
                case rel => exact ⟨rfl, 1, by omega, by omega, rfl, HJ2⟩
              · have hq' : ((x : Int) != (s.toNat : Int) / 16777216) = true := by simpa using hq
                have HO : Hid (opn l = ([], 0, false)) := opn_no HG.out (fun h => hq (by
                  have h1 := HB.out.1 (by rw [HS.out, h.2.2.2])
                  omega))
                clear hq
                go_wp2_with fail
                go_ret3
                exact openPost_no HO.out hb1
            · have hx : k + n + 1 < l.length := by omega
              have hcell := HC.out (k + n + 1) _ (By_get hx)
              have HB : Hid ((be4 s)[1]? = ((l.drop (k + n)).take 4)[1]? ↔ (l[k + n + 1].toNat : Int) = ((s.toNat / 65536 : Nat) : Int) % 256) := same_byte (m := s.toNat / 65536) rfl (by decide) hx
              generalize l[k + n + 1].toNat = x at *
              by_cases hq : (x : Int) = (s.toNat : Int) / 65536 % 256
              · have hq' : ((x : Int) != (s.toNat : Int) / 65536 % 256) = false := by simpa using hq
                have HJ2 : Hid (∀ j, j < 1 + 1 → (be4 s)[j]? = ((l.drop (k + n)).take 4)[j]?) := upto_succ HJ.out (HB.out.2 (by omega))
                clear hq
                go_wp2_with fail
                go_roundg 3
                case measure => omega
                case rel => exact ⟨rfl, 2, by omega, by omega, rfl, HJ2⟩
              · have hq' : ((x : Int) != (s.toNat : Int) / 65536 % 256) = true := by simpa using hq
                have HO : Hid (opn l = ([], 0, false)) := opn_no HG.out (fun h => hq (by
                  have h1 := HB.out.1 (by rw [HS.out, h.2.2.2])
                  omega))
                clear hq
                go_wp2_with fail
                go_ret3
                exact openPost_no HO.out hb1
            · have hx : k + n + 2 < l.length := by omega
              have hcell := HC.out (k + n + 2) _ (By_get hx)
              have HB : Hid ((be4 s)[2]? = ((l.drop (k + n)).take 4)[2]? ↔ (l[k + n + 2].toNat : Int) = ((s.toNat / 256 : Nat) : Int) % 256) := same_byte (m := s.toNat / 256) rfl (by decide) hx
              generalize l[k + n + 2].toNat = x at *
              by_cases hq : (x : Int) = (s.toNat : Int) / 256 % 256
              · have hq' : ((x : Int) != (s.toNat : Int) / 256 % 256) = false := by simpa using hq
                have HJ2 : Hid (∀ j, j < 2 + 1 → (be4 s)[j]? = ((l.drop (k + n)).take 4)[j]?) := upto_succ HJ.out (HB.out.2 (by omega))
                clear hq
                go_wp2_with fail
                go_roundg 2
                case measure => omega
                case rel => exact ⟨rfl, 3, by omega, by omega, rfl, HJ2⟩
              · have hq' : ((x : Int) != (s.toNat : Int) / 256 % 256) = true := by simpa using hq
                have HO : Hid (opn l = ([], 0, false)) := opn_no HG.out (fun h => hq (by
                  have h1 := HB.out.1 (by rw [HS.out, h.2.2.2])
                  omega))
                clear hq
                go_wp2_with fail
                go_ret3
                exact openPost_no HO.out hb1
            · have hx : k + n + 3 < l.length := by omega
              have hcell := HC.out (k + n + 3) _ (By_get hx)
              have HB : Hid ((be4 s)[3]? = ((l.drop (k + n)).take 4)[3]? ↔ (l[k + n + 3].toNat : Int) = ((s.toNat : Nat) : Int) % 256) := same_byte (m := s.toNat) rfl (by decide) hx
              generalize l[k + n + 3].toNat = x at *
              by_cases hq : (x : Int) = (s.toNat : Int) % 256
              · have hq' : ((x : Int) != (s.toNat : Int) % 256) = false := by simpa using hq
                have HJ2 : Hid (∀ j, j < 3 + 1 → (be4 s)[j]? = ((l.drop (k + n)).take 4)[j]?) := upto_succ HJ.out (HB.out.2 (by omega))
                clear hq
                go_wp2_with fail
                go_roundg 1
                case measure => omega
                case rel => exact ⟨rfl, 4, by omega, by omega, rfl, HJ2⟩
              · have hq' : ((x : Int) != (s.toNat : Int) % 256) = true := by simpa using hq
                have HO : Hid (opn l = ([], 0, false)) := opn_no HG.out (fun h => hq (by
                  have h1 := HB.out.1 (by rw [HS.out, h.2.2.2])
                  omega))
                clear hq
                go_wp2_with fail
                go_ret3
                exact openPost_no HO.out hb1
          · obtain rfl : i = 4 := by omega
            have HO : Hid (opn l = ((l.drop k).take n, k + n + 4, true)) := opn_yes HG.out h1 h2 (by rw [← HS.out]; exact heads_eq rfl (by simp; omega) HJ.out)
            have hd := ((hcap2.kept ((Below.refl _ _).alloc (Nat.le_refl _) (.cells #[] 5 (0, 0)))).drop k hkl (off + k) (.inl rfl)).take n (by omega)
            have hs : ∀ W, (Instr.sliceAt 22 (.slice (some ⟨b, off, none⟩) l.length cap) (some (.int .i64 (k : Int))) (some (.int .i64 ((k : Int) + (n : Int)))) none).run Tryd.prog W = .ok (.slice (some ⟨b, off + k, none⟩) n (cap - k)) W := fun W => by
              have := slice_mid b off l.length cap k (k + n) (by omega) (by omega) hcap (by omega) W
              rw [Nat.add_sub_cancel_left] at this
              exact this
            go_wp2_with (first
              | (at_builtin; refine wpList_append_bytes _ rfl (.tmp 59) (.tmp 63) 22 22 rfl wr.heap.size i0 Tryd.underlying22 hi hz0 hz1 hz2 _ [] rfl (own_none wr _ (Nat.le_refl _)) _ ((l.drop k).take n) rfl (by exact hd.src 22 Tryd.underlying22) (by simp; omega) (by simp) ?_; intro v5 w5 ho5 hb5; simp only [List.nil_append] at ho5))
            go_ret3
            have hbo : Below w.heap.size w w5 := (hb1.trans ((Below.refl _ _).alloc hb1.size _)).trans (hb5.mono hb1.size)
            exact ⟨v5, by rw [HO.out]; rfl, by rw [HO.out]; exact ho5.rd, hbo⟩
      · have HO : Hid (opn l = ([], 0, false)) := opn_no hg (fun h => h2 h.2.2.1)
        have h2' : (l.length : Int) - k < (n : Int) + 4 := by omega
        have h3' : (k : Int) ≤ l.length := by omega
        go_enter Tryd.func18, Tryd.ntmps18
        go_wp2_with fail
        refine (refGetNum_any _ l _ hr0 hl).mono ?_
        rw [hg]
        rintro e w1 ⟨rfl, hb1⟩
        clear hg
        go_wp2_with fail
        go_ret3
        exact openPost_no HO.out hb1
    · have HO : Hid (opn l = ([], 0, false)) := opn_no hg (fun h => h1 h.2.1)
      have h1' : (8192 : Int) < n := by omega
      have HN : Hid (n < 256 ^ 8) := hn8
      clear h1 hn8
      go_enter Tryd.func18, Tryd.ntmps18
      go_wp2_with fail
      refine (refGetNum_any _ l _ hr hl).mono ?_
      rw [hg]
      rintro e w1 ⟨rfl, hb1⟩
      clear hg
      go_wp2_with fail
      go_ret3
      exact openPost_no HO.out hb1
#print axioms refOpen_any
end Go.Proofs.YtmopfipkbjfhoaaDoor
