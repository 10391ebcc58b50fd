/-
  indenturelaw05.DiskDirty: the walk: the call returns true and makes new memory alone.
-/
import Derived.Test.YtnkcjhfdmnpckabDSea
import Derived.Test.YtnkcjhfdmnpckabDInts
import Derived.Test.YtnkcjhfdmnpckabDPlain
namespace Go.Proofs.Ytnkcjhfdmnpckab
open Go.RowKit
open Pd (DM spl)
theorem OwnN.at {w : World} {v : Value} {l : List Int} (h : OwnN w v l) : ∃ a cp, v = .slice a l.length cp := by
  obtain ⟨a, cp, e, _⟩ := h.rd
  exact ⟨a, cp, e⟩
theorem nodup_le : ∀ {k : Nat} {l : List Nat}, l.Nodup → (∀ x ∈ l, x < k) → l.length ≤ k
  | 0, l, _, h => by cases l with
    | nil => simp
    | cons x r => exact absurd (h x (by simp)) (by omega)
  | k + 1, l, hn, h => by
    have h1 := nodup_le (k := k) (l := l.erase k) (hn.erase k) (fun x hx => by
      have a := h x (List.mem_of_mem_erase hx)
      have b : x ≠ k := fun e => by subst e; exact (hn.not_mem_erase hx)
      omega)
    have h2 : l.length ≤ (l.erase k).length + 1 := by
      by_cases hk : k ∈ l
      · rw [List.length_erase_of_mem hk]; omega
      · rw [List.erase_of_not_mem hk]; omega
    omega
theorem touch_len {d : List Nat} {p : Nat} : ∀ n, (Pd.touch d p n).length ≤ d.length + n
  | 0 => Nat.le_refl _
  | n + 1 => by
    have := touch_len (d := d) (p := p) n
    rw [Pd.touch, Pd.adds]
    split
    · omega
    · rw [List.length_append]; simp; omega
/-- Is s none of the first j? -/
def noneOf (d : List Int) (s : Int) (j : Nat) : Bool := (d.take j).all fun x => decide (x ≠ s)
theorem noneOf_succ {d : List Int} {s : Int} {j : Nat} {x : Int} (h : d[j]? = some x) : noneOf d s (j + 1) = (noneOf d s j && decide (x ≠ s)) := by
  unfold noneOf
  rw [List.take_add_one, h]
  simp
/-- The law's own row, of colour 9. -/
structure Mine (w : World) (c : Nat → Nat) (v : Value) (d : List Nat) : Prop where
  own : OwnN w v (Nats d)
  col : ∀ b, v.ownBlock = some b → c b = 9
theorem Mine.lt {w : World} {c : Nat → Nat} {v : Value} {d : List Nat} (h : Mine w c v d) {b : Nat} (hb : v.ownBlock = some b) : b < w.heap.size := by
  obtain ⟨cur, hc⟩ := h.own.block hb
  exact (Array.getElem?_eq_some_iff.1 hc).1
theorem Mine.kept {w w' : World} {c : Nat → Nat} {v : Value} {d : List Nat} (h : Mine w c v d) (hb : Below w.heap.size w w') : Mine w' c v d :=
  ⟨h.own.chg (F := fun _ => False) (Chg.of_below hb) (fun _ _ => id), h.col⟩
theorem Mine.step {w w' : World} {c c' : Nat → Nat} {v : Value} {d : List Nat} (h : Mine w c v d) (hs : Step c 1 w c' w') : Mine w' c' v d :=
  ⟨h.own.chg hs.chg (fun b hb e => by have := h.col b hb; omega), fun b hb => (hs.ext b (h.lt hb)).trans (h.col b hb)⟩
theorem OneC.grow {w0 w w' : World} {D n : Nat} {m : DM} {c : Nat → Nat} (h : OneC w0 w D n m c) {F : Nat → Prop} (hc : Chg F w w') (hF : ∀ k, F k → k < w.heap.size → c k = 9) : OneC w0 w' D n m (paint c w w' 9) := by
  obtain ⟨h1, h2, h3, h4⟩ := h
  refine ⟨h1.chg hc (fun k hk e f => by have := hF k f hk; omega) (fun k hk => paint_old hk), fun k hk => paint_norm hc.size hk, fun k hk => (paint_old (Nat.lt_of_lt_of_le hk h4.size)).trans (h3 k hk), h4.trans (hc.below h4.size (fun k hk f => ?_))⟩
  have h5 := hF k f (Nat.lt_of_lt_of_le hk h4.size)
  have h6 := h3 k hk
  omega
set_option maxHeartbeats 4000000 in
set_option maxRecDepth 100000 in
theorem diskDirty_any {w : World} {v : Value} {L : List ActP} (h : RdL w v L) : Calls Try.prog 4 #[v] w fun e w' => e = .returned (.bool true) ∧ Below w.heap.size w w' := by
  have HL : Hid (RdL w v L) := h
  obtain ⟨a, cp, hv, h1, h2, h3⟩ := h
  subst hv
  clear h3
  obtain ⟨n, HN⟩ : ∃ n, Hid (L.length = n) := ⟨_, rfl⟩
  rw [HN.out] at h1 HL ⊢
  have hz := Zact
  have hn : n ≤ 9223372036854775807 := by unfold maxLen at h2; omega
  obtain ⟨i0, hi0, hz0, hz1, hz2⟩ := info_parts Try.info3
  go_enter Try.func4, Try.ntmps4
  go_wp2_with fail
  refine (OneC.new w 10 (by decide) (by decide)).mono ?_
  rintro e w1 ⟨D, rfl, c1, o1⟩
  have O1 : Hid (OneC w w1 D 10 (Pd.new 10) c1) := o1
  clear o1
  go_wp2_with fail
  refine (light_any (HL.out.kept O1.out.below)).mono ?_
  rintro e w2 ⟨x, rfl, hx, hb2⟩
  have O2 : Hid (OneC w w2 D 10 (Pd.new 10) c1) := O1.out.kept hb2
  clear O1 hb2
  cases x with
  | false =>
    go_wp2_with fail
    refine (lives_any w2).mono ?_
    rintro e w3 ⟨rfl, hb3⟩
    have B3 : Hid (Below w.heap.size w w3) := O2.out.below.trans (hb3.mono O2.out.below.size)
    clear hb3
    go_wp2
    go_ret
    exact ⟨rfl, B3.out⟩
  | true =>
    have HX : Hid (Light L) := hx rfl
    clear hx
    go_wp2_with fail
    go_loopg [4, 27] n (fun g y x wr => ∃ i : Nat, ∃ m l c, g + i = n ∧ x = .int .i64 (i : Int) ∧ Hid (OneC w wr D 10 m c) ∧ Hid (Plain 10 m l) ∧ Hid (Mine wr c y m.dirty))
    case atStart => exact ⟨0, _, _, c1, by omega, rfl, O2, plain_new 10, ⟨OwnN_nil w2, fun b hb => by cases hb⟩⟩
    case round =>
      clear O2
      obtain ⟨i, m, l, c, hgi, rfl, OR, PR, MR⟩ := hrel
      obtain ⟨aw, cw, hvw⟩ := MR.out.own.at
      subst hvw
      by_cases hlt : i < n
      · have q2 : (i : Int) < (n : Int) := by omega
        obtain ⟨b, off, p, ab, cb, ak, ck, rfl, hp, hr, hA⟩ := HL.out.nth HN.out OR.out.below hlt
        have HF : Hid (p.B.length ≤ 400 ∧ p.keep.length ≤ 100) := HX.out.nth hp
        have C1 : Hid (∀ u ∈ AC p (.slice ab p.B.length cb) (.slice ak p.keep.length ck), u.oneCell' = true) := AC_one hA
        have HA : Hid (IsA w p (.slice ab p.B.length cb) (.slice ak p.keep.length ck)) := hA
        obtain ⟨CA, HCA⟩ : ∃ CA, Hid (AC p (.slice ab p.B.length cb) (.slice ak p.keep.length ck) = CA) := ⟨_, rfl⟩
        rw [HCA.out] at hr C1
        have hcl : CA.length = 5 := by rw [← HCA.out]; rfl
        clear hA hp
        go_upto_region 8 with (first
          | (refine wpList_load_mid rfl 30 _ rfl b (off + i * 5) rfl CA _ hr Try.underlying30 rfl (by rw [hcl]; exact Try.size30) ?_)
          | (refine wpList_store_new rfl 30 _ _ rfl wr _ _ _ rfl rfl rfl (by simpa [hcl] using Try.size30) (by simp [hcl]) (all_one C1.out) ?_)
          | fail)
        obtain ⟨E, HE⟩ : ∃ E, Hid (wr.heap.size = E) := ⟨_, rfl⟩
        rw [HE.out]
        obtain ⟨w4, hw4⟩ : ∃ x, x = wr.alloc (.cells CA.toArray 30 (0, 0)) := ⟨_, rfl⟩
        rw [← hw4]
        have hb4 : Below wr.heap.size wr w4 := by rw [hw4]; exact (Below.refl _ _).alloc (Nat.le_refl _) _
        have O4 : Hid (OneC w w4 D 10 m c) := OR.out.kept hb4
        have M4 : Hid (Mine w4 c (.slice aw (Nats m.dirty).length cw) m.dirty) := MR.out.kept hb4
        have E4 : Hid (Blk w4 E 30 (AC p (.slice ab p.B.length cb) (.slice ak p.keep.length ck))) := (show Blk _ _ _ _ by rw [hw4, ← HE.out, HCA.out]; exact Blk.new wr 30 CA)
        have CE : Hid (c E = 0) := (show _ from OR.out.2.1 E (by rw [HE.out]; exact Nat.le_refl _))
        clear hw4 hb4 hr OR MR C1 hcl HCA
        obtain ⟨lb, HLB⟩ : ∃ lb, Hid (p.B.length = lb) := ⟨_, rfl⟩
        have hlb4 : lb ≤ 400 := by rw [← HLB.out]; exact HF.out.1
        have c0 := E4.out.cell (j := 0) rfl
        have c1' := E4.out.cell (j := 1) rfl
        have c3 := E4.out.cell (j := 3) rfl
        rw [HLB.out] at c3
        by_cases k0 : p.kind = 0
        · rw [k0] at c0
          go_wp2_with fail
          have hRd : Rd w (.slice ab lb cb) p.B := by have := HA.out.b; rw [HLB.out] at this; exact this
          refine (OneC.write O4.out p.a HA.out.wa _ p.B hRd).mono ?_
          rintro e w5 ⟨rfl, c5, o5, s5⟩
          have O5 : Hid (OneC w w5 D 10 (Pd.write m p.a p.B).2 c5) := o5
          have M5 : Hid (Mine w5 c5 (.slice aw (Nats m.dirty).length cw) m.dirty) := M4.out.step s5
          have E5 : Hid (Blk w5 E 30 (AC p (.slice ab p.B.length cb) (.slice ak p.keep.length ck))) := E4.out.past s5 CE.out
          have CE5 : Hid (c5 E = 0) := (show _ from (s5.ext E E4.out.lt).trans CE.out)
          clear o5 s5 c0 c1' c3 hRd O4 M4 E4 CE
          cases hf : fitsB 10 p.a p.B with
          | true =>
            obtain ⟨hw1, hw2, hw3⟩ := PR.out.write p.a p.B hf
            rw [hw1]
            unfold fitsB at hf
            simp only [Bool.and_eq_true, decide_eq_true_eq] at hf
            obtain ⟨q, HQ⟩ : ∃ q : Nat, Hid (p.a = (q : Int)) := ⟨p.a.toNat, (show _ = _ by omega)⟩
            have hq1 : q ≤ 320 := by have := HQ.out; omega
            obtain ⟨m', HM'⟩ : ∃ m', Hid ((Pd.write m p.a p.B).2 = m') := ⟨_, rfl⟩
            rw [HM'.out] at O5 hw2 hw3
            have P5 : Hid (Plain 10 m' (spl l p.a.toNat p.B)) := hw2
            have D5 : Hid (m'.dirty = Pd.touch m.dirty q lb) := (show _ = _ by rw [hw3, HQ.out, HLB.out]; rfl)
            have c1' := E5.out.cell (j := 1) rfl
            have c3 := E5.out.cell (j := 3) rfl
            rw [HLB.out] at c3
            rw [HQ.out] at c1'
            clear hf hw1 hw2 hw3
            go_wp2_with fail
            go_loopg [4, 45] lb (fun g y x wt => ∃ j : Nat, ∃ c, g + j = lb ∧ x = .int .i64 (j : Int) ∧ Hid (OneC w wt D 10 m' c) ∧ Hid (Mine wt c y (Pd.touch m.dirty q j)) ∧ Hid (Blk wt E 30 (AC p (.slice ab p.B.length cb) (.slice ak p.keep.length ck))) ∧ Hid (c E = 0))
            case atStart => exact ⟨0, c5, by omega, rfl, O5, M5, E5, CE5⟩
            case round =>
              clear O5 M5 E5 CE5 c1' c3
              obtain ⟨j, c, hgj, rfl, OT, MT, ET, CT⟩ := hrel
              obtain ⟨T, HT⟩ : ∃ T, Hid (Pd.touch m.dirty q j = T) := ⟨_, rfl⟩
              rw [HT.out] at MT
              obtain ⟨aw, cw, hvw⟩ := MT.out.own.at
              subst hvw
              obtain ⟨lt, HLT⟩ : ∃ lt, Hid ((Nats T).length = lt) := ⟨_, rfl⟩
              have hT10 : lt ≤ 1000 := by
                have h1 := nodup_le PR.out.ok.nodup PR.out.ok.low
                have h2 := touch_len (d := m.dirty) (p := q) j
                rw [← HLT.out, Nats_length, ← HT.out]
                omega
              rw [HLT.out] at MT ⊢
              by_cases hj : j < lb
              · have q3 : (j : Int) < (lb : Int) := by omega
                have c1' := ET.out.cell (j := 1) rfl
                rw [HQ.out] at c1'
                obtain ⟨S, HS⟩ : ∃ S : Nat, Hid ((q + j) / 32 = S) := ⟨_, rfl⟩
                have HSI : Hid (((q : Int) + (j : Int)) / 32 = (S : Int)) := (show _ = _ by have := HS.out; omega)
                have hS : S ≤ 1000 := by have := HS.out; omega
                obtain ⟨wq, hwq⟩ : ∃ x, x = wr := ⟨_, rfl⟩
                have HWQ : Hid (wq = wr) := hwq
                have OQ : Hid (OneC w wq D 10 m' c) := hwq ▸ OT
                have MQ : Hid (Mine wq c (.slice aw lt cw) T) := hwq ▸ MT
                have EQ : Hid (Blk wq E 30 (AC p (.slice ab p.B.length cb) (.slice ak p.keep.length ck))) := hwq ▸ ET
                clear hwq OT MT ET
                go_wp2_with fail
                rw [HSI.out]
                go_loopg [9, 55] lt (fun g y x wu => ∃ k : Nat, g + k = lt ∧ x = .int .i64 (k : Int) ∧ y = .bool (!noneOf (Nats T) (S : Int) k) ∧ wu = wq)
                case atStart => exact ⟨0, by omega, rfl, rfl, HWQ.out.symm⟩
                case round =>
                  obtain ⟨k, hgk, rfl, rfl, rfl⟩ := hrel
                  obtain ⟨bl, HBL⟩ : ∃ b, Hid (noneOf (Nats T) (S : Int) k = b) := ⟨_, rfl⟩
                  rw [HBL.out]
                  by_cases hk : k < lt
                  · have q4 : (k : Int) < (lt : Int) := by omega
                    have hk' : k < (Nats T).length := by rw [HLT.out]; exact hk
                    obtain ⟨_, _, e1, -, h1⟩ := MQ.out.own.rd.at
                    simp only [Value.slice.injEq] at e1
                    obtain ⟨rfl, -, rfl⟩ := e1
                    obtain ⟨ba, oa, rfl, hca⟩ := h1 (by omega)
                    have cc := hca k hk'
                    clear hca h1
                    obtain ⟨x, HXX⟩ : ∃ x, Hid ((Nats T)[k] = x) := ⟨_, (show (Nats T)[k] = _ from rfl)⟩
                    rw [HXX.out] at cc
                    have HSS : Hid (noneOf (Nats T) (S : Int) (k + 1) = (bl && decide (x ≠ (S : Int)))) := (show noneOf (Nats T) (S : Int) (k + 1) = (bl && decide (x ≠ (S : Int))) by rw [noneOf_succ (List.getElem?_eq_getElem hk'), HXX.out, HBL.out])
                    cases bl with
                    | false =>
                      simp only [Bool.not_false]
                      go_wp2_with fail
                      go_roundg (gk - 1)
                      case measure => omega
                      case rel => exact ⟨k + 1, by omega, by go_num, by rw [HSS.out]; rfl, rfl⟩
                    | true =>
                      simp only [Bool.not_true]
                      go_wp2_with fail
                      go_roundg (gk - 1)
                      case measure => omega
                      case rel => exact ⟨k + 1, by omega, by go_num, by rw [HSS.out]; simp; rfl, rfl⟩
                  · obtain rfl : k = lt := by omega
                    have HM2 : Hid (bl = decide (S ∉ T)) := (show bl = decide (S ∉ T) by
                      rw [← HBL.out]
                      unfold noneOf
                      rw [List.take_of_length_le (by rw [HLT.out]; exact Nat.le_refl _)]
                      by_cases hm : S ∈ T
                      · rw [decide_eq_false (by simpa using hm), List.all_eq_false]
                        exact ⟨_, List.mem_map.2 ⟨S, hm, rfl⟩, by simp⟩
                      · rw [decide_eq_true hm, List.all_eq_true]
                        intro x hx
                        simp only [decide_eq_true_eq]
                        obtain ⟨t, ht, rfl⟩ := List.mem_map.1 hx
                        exact fun e => hm (by have : t = S := by omega
                                              rw [← this]; exact ht))
                    have HTS : Hid (Pd.touch m.dirty q (j + 1) = Pd.adds T S) := (show _ = _ by rw [Pd.touch, HT.out, HS.out])
                    cases bl with
                    | false =>
                      have hin : S ∈ T := by
                        have := HM2.out
                        by_cases hm : S ∈ T
                        · exact hm
                        · rw [decide_eq_true hm] at this; cases this
                      simp only [Bool.not_false]
                      have MQ' : Hid (Mine wr c (.slice aw k cw) (Pd.touch m.dirty q (j + 1))) := (show Mine _ _ _ _ by rw [HTS.out, Pd.adds, if_pos hin]; exact MQ.out)
                      clear hin
                      go_wp2_with fail
                      go_roundg (lb - (j + 1))
                      case measure => omega
                      case rel => exact ⟨j + 1, c, by omega, by go_num, OQ, MQ', EQ, CT⟩
                    | true =>
                      have hin : S ∉ T := by
                        have := HM2.out
                        by_cases hm : S ∈ T
                        · rw [decide_eq_false (by simpa using hm)] at this; cases this
                        · exact hm
                      simp only [Bool.not_true]
                      have HOW : Hid (OwnN wr (.slice aw k cw) (Nats T)) := MQ.out.own
                      go_upto_region 23 with (first
                        | (at_builtin; refine wpList_append_own_at _ rfl _ _ 28 rfl 0 3 i0 (.int .i64 0) 1 8 Try.underlying28 hi0 hz0 hz1 hz2 rfl (by decide) (.slice aw k cw) (Nats T).length (Ni (Nats T)) rfl (HOW.out.chg (F := fun _ => False) (Chg.alloc _ _ _) (fun _ _ => id)) ⟨wr.heap.size, 0, none⟩ 1 1 [.int .i64 (S : Int)] rfl rfl (cell_one_new _ _ _) (Ni_one [(S : Int)]) (by rw [HLT.out]; unfold maxLen; omega) (by rw [HLT.out]; omega) (by simp) ?_; intro v5 wa ho5 hg5 hn5 hl5; clear hn5; have HO5 : Hid _ := ho5; have HG5 : Hid _ := hg5; have HL5 : Hid _ := hl5; clear ho5 hg5 hl5)
                        | fail)
                      have HCH : Hid (Chg (fun b => (Value.slice aw k cw).ownBlock = some b) wr wa) := (Chg.alloc (fun b => (Value.slice aw k cw).ownBlock = some b) wr _).trans (Chg.of_grown HG5.out (fun k e _ => e))
                      have O6 : Hid (OneC w wa D 10 m' (paint c wr wa 9)) := OQ.out.grow HCH.out (fun b hb _ => MQ.out.col b hb)
                      have E6 : Hid (Blk wa E 30 (AC p (.slice ab p.B.length cb) (.slice ak p.keep.length ck))) := EQ.out.chg HCH.out (fun e => by have := MQ.out.col E e; have := CT.out; omega)
                      have C6 : Hid (paint c wr wa 9 E = 0) := (show _ = _ from (paint_old EQ.out.lt).trans CT.out)
                      have M6 : Hid (Mine wa (paint c wr wa 9) v5 (Pd.touch m.dirty q (j + 1))) := (show Mine _ _ _ _ by
                        have hown : OwnN wa v5 (Nats (T ++ [S])) := by
                          have := HO5.out
                          unfold OwnN
                          rw [show Nats (T ++ [S]) = Nats T ++ [(S : Int)] by simp [Nats], Ni_append, List.length_append]
                          exact this
                        rw [HTS.out, Pd.adds, if_neg hin]
                        refine ⟨hown, fun b hb => ?_⟩
                        rcases HL5.out with e | e
                        · rw [e] at hb
                          rw [paint_old (MQ.out.lt hb)]
                          exact MQ.out.col b hb
                        · have hlt5 : b < wa.heap.size := by
                            obtain ⟨cur, hc⟩ := hown.block hb
                            exact (Array.getElem?_eq_some_iff.1 hc).1
                          rw [e] at hb
                          cases hb
                          exact paint_new (by simp) hlt5)
                      clear HO5 HG5 HL5 HCH HOW hin OQ MQ EQ
                      go_wp2_with fail
                      go_roundg (lb - (j + 1))
                      case measure => omega
                      case rel => exact ⟨j + 1, _, by omega, by go_num, O6, M6, E6, C6⟩
              · obtain rfl : j = lb := by omega
                go_wp2_with fail
                refine (OT.out.dirty).mono ?_
                rintro e w6 ⟨vd, rfl, rd, o6, b6⟩
                have O6 : Hid (OneC w w6 D 10 m' c) := o6
                have M6 : Hid (Mine w6 c (.slice aw lt cw) T) := MT.out.kept b6
                have R6 : Hid (RdN w6 vd (Nats m'.dirty)) := rd
                have D6 : Hid (m'.dirty = T) := (show _ = _ by rw [D5.out, HT.out])
                clear o6 rd b6 OT MT ET
                go_wp2_with fail
                refine (ints_any R6.out M6.out.own.rd).mono ?_
                rintro e w7 ⟨rfl, b7⟩
                rw [decide_eq_true (by rw [D6.out] : Nats m'.dirty = Nats T)]
                have O7 : Hid (OneC w w7 D 10 m' c) := O6.out.kept b7
                have M7 : Hid (Mine w7 c (.slice aw lt cw) m'.dirty) := (show Mine _ _ _ _ by rw [D6.out]; exact M6.out.kept b7)
                clear b7 O6 M6 R6
                go_wp2_with fail
                go_roundg (n - (i + 1))
                case measure => omega
                case rel => exact ⟨i + 1, m', _, c, by omega, by go_num, O7, P5, M7⟩
          | false =>
            obtain ⟨hw1, hw2⟩ := PR.out.refuse p.a p.B hf
            rw [hw2] at O5
            have hne : ¬ ((Pd.write m p.a p.B).1 : Int) = 0 := by rcases hw1 with h | h <;> rw [h] <;> decide
            obtain ⟨r, HR⟩ : ∃ r : Int, Hid (((Pd.write m p.a p.B).1 : Int) = r) := ⟨_, rfl⟩
            rw [HR.out] at hne ⊢
            have hr0 : decide (r = 0) = false := by simp [hne]
            clear hw1 hw2 hf
            go_wp2_with fail
            go_roundg (gk - 1)
            case measure => omega
            case rel => exact ⟨i + 1, m, l, c5, by omega, by go_num, O5, PR, M5⟩
        · have n0 : decide (p.kind = 0) = false := by simp [k0]
          by_cases k2 : p.kind = 2
          · rw [k2] at c0
            clear n0
            go_wp2_with fail
            refine (OneC.sync O4.out).mono ?_
            rintro e w5 ⟨rfl, c5, o5, s5⟩
            have O5 : Hid (OneC w w5 D 10 (Pd.sync m).2 c5) := o5
            have P5 : Hid (Plain 10 (Pd.sync m).2 l) := PR.out.sync.2.1
            have D5 : Hid ((Pd.sync m).2.dirty = []) := PR.out.sync.2.2
            clear o5 s5 c0 c1' c3 O4 M4 E4 CE
            go_wp2_with fail
            refine (O5.out.dirty).mono ?_
            rintro e w6 ⟨vd, rfl, rd, o6, b6⟩
            have O6 : Hid (OneC w w6 D 10 (Pd.sync m).2 c5) := o6
            have R6 : Hid (RdN w6 vd (Nats (Pd.sync m).2.dirty)) := rd
            clear o6 rd b6 O5
            go_wp2_with fail
            refine (ints_any R6.out (RdN_nil w6)).mono ?_
            rintro e w7 ⟨rfl, b7⟩
            rw [decide_eq_true (by rw [D5.out]; rfl : Nats (Pd.sync m).2.dirty = [])]
            have O7 : Hid (OneC w w7 D 10 (Pd.sync m).2 c5) := O6.out.kept b7
            have M7 : Hid (Mine w7 c5 (.slice none 0 0) (Pd.sync m).2.dirty) := (show Mine _ _ _ _ by rw [D5.out]; exact ⟨OwnN_nil w7, fun b hb => by cases hb⟩)
            clear b7 O6 R6
            go_wp2_with fail
            go_roundg (gk - 1)
            case measure => omega
            case rel => exact ⟨i + 1, _, l, c5, by omega, by go_num, O7, P5, M7⟩
          · have n2 : decide (p.kind = 2) = false := by simp [k2]
            go_wp2_with fail
            refine (O4.out.dirty).mono ?_
            rintro e w6 ⟨vd, rfl, rd, o6, b6⟩
            have O6 : Hid (OneC w w6 D 10 m c) := o6
            have M6 : Hid (Mine w6 c (.slice aw (Nats m.dirty).length cw) m.dirty) := M4.out.kept b6
            have R6 : Hid (RdN w6 vd (Nats m.dirty)) := rd
            clear o6 rd b6 O4 M4 E4 c0 c1' c3
            go_wp2_with fail
            refine (ints_any R6.out M6.out.own.rd).mono ?_
            rintro e w7 ⟨rfl, b7⟩
            rw [decide_eq_true (rfl : Nats m.dirty = Nats m.dirty)]
            have O7 : Hid (OneC w w7 D 10 m c) := O6.out.kept b7
            have M7 : Hid (Mine w7 c (.slice aw (Nats m.dirty).length cw) m.dirty) := M6.out.kept b7
            clear b7 O6 M6 R6
            go_wp2_with fail
            go_roundg (gk - 1)
            case measure => omega
            case rel => exact ⟨i + 1, m, l, c, by omega, by go_num, O7, PR, M7⟩
      · obtain rfl : i = n := by omega
        go_wp2_with fail
        refine (lives_any wr).mono ?_
        rintro e w6 ⟨rfl, hb6⟩
        have B6 : Hid (Below w.heap.size w w6) := OR.out.below.trans (hb6.mono OR.out.below.size)
        clear hb6
        go_wp2
        go_ret
        exact ⟨rfl, B6.out⟩
end Go.Proofs.Ytnkcjhfdmnpckab
