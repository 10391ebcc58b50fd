/-
  indenturelaw05.DiskKeeps: the walk: the call returns true and makes new memory alone.
-/
import Derived.Test.YtnkcjhfdmnpckaaDSea
import Derived.Test.YtnkcjhfdmnpckaaDInts
import Derived.Test.YtnkcjhfdmnpckaaWritesWalk
namespace Go.Proofs.Ytnkcjhfdmnpckaa
open Go.RowKit
open Pd (DM)
theorem rdL_new {W : World} {p : ActP} {vb vk : Value} {fr : Nat × Nat} (hA : IsA W p vb vk) : RdL (W.alloc (.cells (AC p vb vk).toArray 32 fr)) (.slice (some ⟨W.heap.size, 0, none⟩) 1 1) [p] := by
  refine ⟨_, 1, rfl, by simp, by simp [maxLen], fun _ => ⟨W.heap.size, 0, rfl, by simp, fun j hj => ?_⟩⟩
  obtain rfl : j = 0 := by simp at hj; omega
  refine ⟨vb, vk, fun i u hi => ?_, hA.kept ((Below.refl _ _).alloc (Nat.le_refl _) _)⟩
  rw [cell_of_row (heap_alloc_new W _)]
  simpa using hi
theorem Rd.at {w : World} {v : Value} {l : List UInt8} (h : Rd w v l) : ∃ a cp, v = .slice a l.length cp ∧ (0 < l.length → ∃ b off, a = some ⟨b, off, none⟩ ∧ ∀ j (hj : j < l.length), w.cell? ⟨b, off + j, none⟩ = some (.int .u8 (l[j].toNat : Int))) := by
  obtain ⟨a, cp, rfl, h1, h2, h3, h4⟩ := h
  refine ⟨a, cp, rfl, fun hp => ?_⟩
  obtain ⟨b, off, rfl, _, hc⟩ := h4 hp
  exact ⟨b, off, rfl, fun j hj => hc j _ (by simp [By, hj])⟩
/-- Is i/32 none of the first j? -/
def noneOf (d : List Int) (s : Int) (j : Nat) : Bool := (d.take j).all fun x => decide (x ≠ s)
theorem noneOf_succ {d : List Int} {s : Int} {j : Nat} {x : Int} (h : d[j]? = some x) : noneOf d s (j + 1) = (noneOf d s j && decide (x ≠ s)) := by
  unfold noneOf
  rw [List.take_add_one, h]
  simp
/-- Behind a crash and a start. -/
theorem crash_start {m : DM} (ho : m.off = false) (K : List Int) (t : Int) : ∃ e, Pd.crashed m K t = (true, Pd.crash m K t) ∧ Pd.start (Pd.crash m K t) = (true, e) ∧ e.off = false ∧ e.dirty = [] ∧ e.now = (Pd.crash m K t).now := by
  refine ⟨{ Pd.crash m K t with off := false, dirty := [] }, ?_, ?_, rfl, rfl, rfl⟩
  · unfold Pd.crashed; rw [if_neg (by rw [ho]; simp)]
  · unfold Pd.start; rw [if_pos (show (Pd.crash m K t).off = true from rfl)]
theorem read_all {n : Nat} {m : DM} (ho : m.off = false) (hk : m.now.length = 32 * n) : Pd.read m 0 ((32 * n : Nat) : Int) = (m.now, 0) := by
  unfold Pd.read
  rw [if_neg (by rw [ho]; simp), if_neg (by rw [hk]; omega)]
  simp
  rw [List.take_of_length_le (by omega)]
set_option maxHeartbeats 4000000 in
set_option maxRecDepth 100000 in
theorem diskKeeps_any {w : World} {v u : Value} {L : List ActP} {q : ActP} (h : RdL w v L) (h' : ∃ vb vk, u = .agg (AC q vb vk).toArray ∧ IsA w q vb vk) : Calls Try.prog 4 #[v, u] w fun e w' => e = .returned (.bool true) ∧ Below w.heap.size w w' := by
  have HL : Hid (RdL w v L) := h
  obtain ⟨a, cp, hv, h1, h2, -⟩ := h
  obtain ⟨vb, vk, hu, hQ⟩ := h'
  obtain ⟨ab, cb, hvb, -⟩ := hQ.b
  obtain ⟨ak, ck, hvk, -⟩ := hQ.k
  subst hv hu hvb hvk
  have HQ : Hid (IsA w q (.slice ab q.B.length cb) (.slice ak q.keep.length ck)) := hQ
  obtain ⟨n, HN⟩ : ∃ n, Hid (L.length = n) := ⟨_, rfl⟩
  rw [HN.out] at h1 HL ⊢
  have hz := Zact
  have hn : n ≤ 9223372036854775807 := by unfold maxLen at h2; omega
  obtain ⟨CQ, HCQ⟩ : ∃ CA, Hid (AC q (.slice ab q.B.length cb) (.slice ak q.keep.length ck) = CA) := ⟨_, rfl⟩
  have CQ1 : Hid (∀ u ∈ AC q (.slice ab q.B.length cb) (.slice ak q.keep.length ck), u.oneCell' = true) := AC_one hQ
  rw [HCQ.out] at CQ1 ⊢
  have hql : CQ.length = 5 := by rw [← HCQ.out]; rfl
  clear hQ
  go_enter Try.func4, Try.ntmps4
  go_upto_region 1 with (first
    | (refine wpList_store_new rfl 32 _ _ rfl w _ _ _ rfl rfl rfl (by simpa [hql] using Try.size32) (by simp [hql]) (all_one CQ1.out) ?_)
    | fail)
  obtain ⟨Q, HQE⟩ : ∃ Q, Hid (w.heap.size = Q) := ⟨_, rfl⟩
  rw [HQE.out]
  obtain ⟨w0, hw0⟩ : ∃ x, x = w.alloc (.cells CQ.toArray 32 (0, 0)) := ⟨_, rfl⟩
  rw [← hw0]
  have B0 : Hid (Below w.heap.size w w0) := (show Below _ _ _ by rw [hw0]; exact (Below.refl _ _).alloc (Nat.le_refl _) _)
  have E0 : Hid (Blk w0 Q 32 CQ) := (show Blk _ _ _ _ by rw [hw0, ← HQE.out]; exact Blk.new w 32 CQ)
  clear hw0
  go_wp2_with fail
  refine (dNew_any w0 (fun _ => 0) 1 (by decide) 12 (by decide) (by decide)).mono ?_
  rintro e w1 ⟨D, rfl, c1, hD, hs, hb, -⟩
  have I1 : Hid (IsD w1 c1 1 D 12 (Pd.new 12)) := hD
  have S1 : Hid (Sea w0 w1 c1) := ⟨hs.norm, fun k hk => hs.ext k hk, hb⟩
  have HL0 : Hid (RdL w0 (.slice a n cp) L) := HL.out.kept B0.out
  have HQ0 : Hid (IsA w0 q (.slice ab q.B.length cb) (.slice ak q.keep.length ck)) := HQ.out.kept B0.out
  have FIN : Hid (∀ w3 c, Sea w0 w3 c → Calls Try.prog 10 #[] w3 fun e w' => e = .returned (.bool true) ∧ Below w.heap.size w w') := (show _ from fun w3 c s3 => (lives_any w3).mono fun e w4 ⟨h1, h2⟩ => ⟨h1, B0.out.trans ((s3.below.trans (h2.mono s3.below.size)).mono B0.out.size)⟩)
  clear hD hs hb HL HQ
  go_wp2_with fail
  refine (light_any (HL0.out.kept S1.out.below)).mono ?_
  rintro e w2 ⟨x, rfl, hx, hb2⟩
  have I2 : Hid (IsD w2 c1 1 D 12 (Pd.new 12)) := I1.out.kept hb2 (fun _ _ => rfl)
  have S2 : Hid (Sea w0 w2 c1) := S1.out.kept hb2
  clear I1 S1 hb2
  cases x with
  | false =>
    go_wp2_with fail
    refine (FIN.out w2 c1 S2.out).mono ?_
    rintro e w3 ⟨rfl, hb3⟩
    have B3 : Hid (Below w.heap.size w w3) := hb3
    clear hb3
    go_wp2
    go_ret
    exact ⟨rfl, B3.out⟩
  | true =>
    have HX : Hid (Light L) := hx rfl
    clear hx
    have EQ2 : Hid (Blk w2 Q 32 (AC q (.slice ab q.B.length cb) (.slice ak q.keep.length ck))) := (show Blk _ _ _ _ by rw [HCQ.out]; exact E0.out.kept S2.out.below)
    have c0 := EQ2.out.cell (j := 0) rfl
    have c1' := EQ2.out.cell (j := 1) rfl
    have c2 := EQ2.out.cell (j := 2) rfl
    have c3 := EQ2.out.cell (j := 3) rfl
    have c4 := EQ2.out.cell (j := 4) rfl
    go_wp2_with fail
    refine (light_any (L := [q]) (rdL_new (fr := (0, 0)) (HQ0.out.kept S2.out.below))).mono ?_
    rintro e w3 ⟨x, rfl, hx, hb3⟩
    have hb3' : Below w2.heap.size w2 w3 := ((Below.refl _ _).alloc (Nat.le_refl _) _).trans (hb3.mono (by simp))
    have I3 : Hid (IsD w3 c1 1 D 12 (Pd.new 12)) := I2.out.kept hb3' (fun _ _ => rfl)
    have S3 : Hid (Sea w0 w3 c1) := S2.out.kept hb3'
    clear I2 S2 hb3 hb3' EQ2 c0 c1' c2 c3 c4
    cases x with
    | false =>
      go_wp2_with fail
      refine (FIN.out w3 c1 S3.out).mono ?_
      rintro e w4 ⟨rfl, hb4⟩
      have B3 : Hid (Below w.heap.size w w4) := hb4
      clear hb4
      go_wp2
      go_ret
      exact ⟨rfl, B3.out⟩
    | true =>
      have HY : Hid (Light [q]) := hx rfl
      clear hx
      go_wp2_with fail
      go_loopg [42] n (fun g x wr => ∃ i : Nat, ∃ m l c, g + i = n ∧ x = .int .i64 (i : Int) ∧ Hid (IsD wr c 1 D 12 m) ∧ Hid (Plain 12 m l) ∧ Hid (Sea w0 wr c))
      case atStart => exact ⟨0, _, _, c1, by omega, rfl, I3, plain_new 12, S3⟩
      case round =>
        clear I3 S3
        obtain ⟨i, m, l, c, hgi, rfl, IR, PR, SR⟩ := hrel
        by_cases hlt : i < n
        · have q2 : (i : Int) < (n : Int) := by omega
          obtain ⟨b, off, p, ab', cb', ak', ck', rfl, hp, hr, hA⟩ := HL0.out.nth HN.out SR.out.below hlt
          have HF : Hid (p.B.length ≤ 400 ∧ p.keep.length ≤ 100) := HX.out.nth hp
          have C1 : Hid (∀ u ∈ AC p (.slice ab' p.B.length cb') (.slice ak' p.keep.length ck'), u.oneCell' = true) := AC_one hA
          have HA : Hid (IsA w0 p (.slice ab' p.B.length cb') (.slice ak' p.keep.length ck')) := hA
          obtain ⟨CA, HCA⟩ : ∃ CA, Hid (AC p (.slice ab' p.B.length cb') (.slice ak' p.keep.length ck') = CA) := ⟨_, rfl⟩
          rw [HCA.out] at hr C1
          have hcl : CA.length = 5 := by rw [← HCA.out]; rfl
          clear hA hp
          go_upto_region 7 with (first
            | (refine wpList_load_mid rfl 32 _ rfl b (off + i * 5) rfl CA _ hr Try.underlying32 rfl (by rw [hcl]; exact Try.size32) ?_)
            | (refine wpList_store_new rfl 32 _ _ rfl wr _ _ _ rfl rfl rfl (by simpa [hcl] using Try.size32) (by simp [hcl]) (all_one C1.out) ?_)
            | fail)
          obtain ⟨E, HE⟩ : ∃ E, Hid (wr.heap.size = E) := ⟨_, rfl⟩
          rw [HE.out]
          obtain ⟨w4, hw4⟩ : ∃ x, x = wr.alloc (.cells CA.toArray 32 (0, 0)) := ⟨_, rfl⟩
          rw [← hw4]
          have hb4 : Below wr.heap.size wr w4 := by rw [hw4]; exact (Below.refl _ _).alloc (Nat.le_refl _) _
          have I4 : Hid (IsD w4 c 1 D 12 m) := IR.out.kept hb4 (fun _ _ => rfl)
          have S4 : Hid (Sea w0 w4 c) := SR.out.kept hb4
          have E4 : Hid (Blk w4 E 32 (AC p (.slice ab' p.B.length cb') (.slice ak' p.keep.length ck'))) := (show Blk _ _ _ _ by rw [hw4, ← HE.out, HCA.out]; exact Blk.new wr 32 CA)
          have CE : Hid (c E = 0) := (show _ from SR.out.norm E (by rw [HE.out]; exact Nat.le_refl _))
          clear hw4 hb4 hr IR SR C1 hcl HCA
          obtain ⟨lb, HLB⟩ : ∃ lb, Hid (p.B.length = lb) := ⟨_, rfl⟩
          have hlb4 : lb ≤ 400 := by rw [← HLB.out]; exact HF.out.1
          have c0 := E4.out.cell (j := 0) rfl
          have c1' := E4.out.cell (j := 1) rfl
          have c3 := E4.out.cell (j := 3) rfl
          rw [HLB.out] at c3
          by_cases k0 : p.kind = 0
          · rw [k0] at c0
            by_cases hl2 : lb < 200
            · have q3 : (lb : Int) < 200 := by omega
              go_wp2_with fail
              have hRd : Rd w4 (.slice ab' lb cb') p.B := by have := HA.out.b.kept S4.out.below; rw [HLB.out] at this; exact this
              refine (dWrite_any I4.out S4.out.norm p.a HA.out.wa _ p.B hRd (by have := S4.out.cool HA.out.b; rw [HLB.out] at this; exact this)).mono ?_
              rintro e w5 ⟨rfl, c5, i5, s5⟩
              have I5 : Hid (IsD w5 c5 1 D 12 (Pd.write m p.a p.B).2) := i5
              have S5 : Hid (Sea w0 w5 c5) := S4.out.step s5 (by decide)
              have c0' := (E4.out.past s5 CE.out).cell (j := 0) rfl
              rw [k0] at c0'
              obtain ⟨l5, P5⟩ : ∃ l5, Hid (Plain 12 (Pd.write m p.a p.B).2 l5) := by
                cases hf : fitsB 12 p.a p.B with
                | true => exact ⟨_, (PR.out.write p.a p.B hf).2.1⟩
                | false => exact ⟨l, (show _ by rw [(PR.out.refuse p.a p.B hf).2]; exact PR.out)⟩
              clear i5 s5 c0 c1' c3 E4 hRd I4 S4
              go_wp2_with fail
              go_roundg (gk - 1)
              case measure => omega
              case rel => exact ⟨i + 1, _, l5, c5, by omega, by go_num, I5, P5, S5⟩
            · have q3 : decide ((lb : Int) < 200) = false := by simp; omega
              go_wp2_with fail
              go_roundg (gk - 1)
              case measure => omega
              case rel => exact ⟨i + 1, m, l, c, by omega, by go_num, I4, PR, S4⟩
          · have n0 : decide (p.kind = 0) = false := by simp [k0]
            by_cases k2 : p.kind = 2
            · rw [k2] at c0
              clear n0
              go_wp2_with fail
              refine (dSync_any I4.out S4.out.norm).mono ?_
              rintro e w5 ⟨rfl, c5, i5, s5⟩
              have I5 : Hid (IsD w5 c5 1 D 12 (Pd.sync m).2) := i5
              have S5 : Hid (Sea w0 w5 c5) := S4.out.step s5 (by decide)
              have P5 : Hid (Plain 12 (Pd.sync m).2 l) := PR.out.sync.2.1
              clear i5 s5 c0 c1' c3 E4 I4 S4
              go_wp2_with fail
              go_roundg (gk - 1)
              case measure => omega
              case rel => exact ⟨i + 1, _, l, c5, by omega, by go_num, I5, P5, S5⟩
            · have n2 : decide (p.kind = 2) = false := by simp [k2]
              go_wp2_with fail
              go_roundg (gk - 1)
              case measure => omega
              case rel => exact ⟨i + 1, m, l, c, by omega, by go_num, I4, PR, S4⟩
        · obtain rfl : i = n := by omega
          clear HL0 HX
          go_wp2_with fail
          refine (dDirty_any IR.out).mono ?_
          rintro e w4 ⟨vd, rfl, rd, nd, b4⟩
          have I4 : Hid (IsD w4 c 1 D 12 m) := IR.out.kept b4 (fun _ _ => rfl)
          have CD4 : Hid (Cool c vd) := SR.out.norm.cool nd
          have S4 : Hid (Sea w0 w4 c) := SR.out.kept b4
          have D4 : Hid (RdN w4 vd (Nats m.dirty)) := rd
          obtain ⟨ad, cd, hvd, -⟩ := rd
          subst hvd
          obtain ⟨ld, HLD⟩ : ∃ ld, Hid ((Nats m.dirty).length = ld) := ⟨_, rfl⟩
          rw [HLD.out] at D4 CD4 ⊢
          clear nd b4 IR SR
          go_wp2_with fail
          refine (dSize_any I4.out).mono ?_
          rintro e w5 ⟨rfl, hw⟩
          subst hw
          go_wp2_with fail
          refine (dRead_any I4.out 0 384 (by decide)).mono ?_
          rintro e w5' ⟨v5, rfl, r5, n5, b5⟩
          have hlen : m.now.length = 384 := I4.out.ok.1.now
          rw [show Pd.read m 0 384 = (m.now, 0) from read_all PR.out.off I4.out.ok.1.now] at r5 ⊢
          have I5 : Hid (IsD w5' c 1 D 12 m) := I4.out.kept b5 (fun _ _ => rfl)
          have S5 : Hid (Sea w0 w5' c) := S4.out.kept b5
          have D5 : Hid (RdN w5' (.slice ad ld cd) (Nats m.dirty)) := D4.out.kept b5
          have N5 : Hid (Rd w5' v5 m.now) := r5
          have CN5 : Hid (Cool c v5) := S4.out.norm.cool n5
          obtain ⟨an, cn, hvn, -⟩ := r5
          subst hvn
          rw [hlen] at N5 CN5 ⊢
          clear n5 b5 I4 S4 D4
          go_wp2_with fail
          refine (dCopy_any I5.out 2 (by decide)).mono ?_
          rintro e w6 ⟨C, rfl, -, c6, i6, j6, s6, -⟩
          have I6 : Hid (IsD w6 c6 1 D 12 m) := j6
          have J6 : Hid (IsD w6 c6 2 C 12 m) := i6
          have S6 : Hid (Sea w0 w6 c6) := S5.out.step s6 (by decide)
          obtain ⟨t1, t2⟩ := Cool.rdN CD4.out D5.out s6 (by decide)
          obtain ⟨t3, t4⟩ := Cool.rd CN5.out N5.out s6 (by decide)
          have D6 : Hid (RdN w6 (.slice ad ld cd) (Nats m.dirty)) := t1
          have CD6 : Hid (Cool c6 (.slice ad ld cd)) := t2
          have N6 : Hid (Rd w6 (.slice an 384 cn) m.now) := t3
          have CN6 : Hid (Cool c6 (.slice an 384 cn)) := t4
          clear i6 j6 s6 t1 t2 t3 t4 I5 S5 D5 CD4 N5 CN5
          go_wp2_with fail
          refine (dCopy_any I6.out 3 (by decide)).mono ?_
          rintro e w7 ⟨X, rfl, -, c7, i7, j7, s7, -⟩
          have I7 : Hid (IsD w7 c7 1 D 12 m) := j7
          have J7 : Hid (IsD w7 c7 2 C 12 m) := J6.out.step s7 (by decide) (by decide)
          have K7 : Hid (IsD w7 c7 3 X 12 m) := i7
          have S7 : Hid (Sea w0 w7 c7) := S6.out.step s7 (by decide)
          obtain ⟨t1, t2⟩ := Cool.rdN CD6.out D6.out s7 (by decide)
          obtain ⟨t3, t4⟩ := Cool.rd CN6.out N6.out s7 (by decide)
          have D7 : Hid (RdN w7 (.slice ad ld cd) (Nats m.dirty)) := t1
          have CD7 : Hid (Cool c7 (.slice ad ld cd)) := t2
          have N7 : Hid (Rd w7 (.slice an 384 cn) m.now) := t3
          have CN7 : Hid (Cool c7 (.slice an 384 cn)) := t4
          clear i7 j7 s7 t1 t2 t3 t4 I6 J6 S6 D6 CD6 N6 CN6
          have hlow := I7.out.ok.1.low
          have hwf : Hid (∀ k ∈ Nats m.dirty, (Lit.int .i64 k).wf = true) := (show _ from fun k hk => by
            obtain ⟨d, hd, rfl⟩ := List.mem_map.1 hk
            have := hlow d hd
            exact i64_of_nat (by omega))
          clear hlow
          go_wp2_with fail
          refine (dCrash_any J7.out S7.out.norm _ _ 0 D7.out hwf.out CD7.out).mono ?_
          obtain ⟨mc, e1, e2, mo1, md1, mn1⟩ := crash_start PR.out.off (Nats m.dirty) 0
          rw [e1]
          rintro e w8 ⟨rfl, c8, j8, s8⟩
          have I8 : Hid (IsD w8 c8 1 D 12 m) := I7.out.step s8 (by decide) (by decide)
          have J8 : Hid (IsD w8 c8 2 C 12 (Pd.crash m (Nats m.dirty) 0)) := j8
          have K8 : Hid (IsD w8 c8 3 X 12 m) := K7.out.step s8 (by decide) (by decide)
          have S8 : Hid (Sea w0 w8 c8) := S7.out.step s8 (by decide)
          obtain ⟨t1, t2⟩ := Cool.rdN CD7.out D7.out s8 (by decide)
          obtain ⟨t3, t4⟩ := Cool.rd CN7.out N7.out s8 (by decide)
          have D8 : Hid (RdN w8 (.slice ad ld cd) (Nats m.dirty)) := t1
          have CD8 : Hid (Cool c8 (.slice ad ld cd)) := t2
          have N8 : Hid (Rd w8 (.slice an 384 cn) m.now) := t3
          have CN8 : Hid (Cool c8 (.slice an 384 cn)) := t4
          have MC : Hid (mc.off = false ∧ mc.dirty = [] ∧ mc.now = m.now) := ⟨mo1, md1, by rw [mn1]; exact Pd.crash_all PR.out.ok (fun x hx => List.mem_map.2 ⟨x, hx, rfl⟩) 0⟩
          have E2 : Hid (Pd.start (Pd.crash m (Nats m.dirty) 0) = (true, mc)) := e2
          clear j8 s8 t1 t2 t3 t4 I7 J7 K7 S7 D7 CD7 N7 CN7 e1 e2 mo1 md1 mn1 hwf
          go_wp2_with fail
          refine (dStart_any J8.out S8.out.norm).mono ?_
          rw [E2.out]
          rintro e w9 ⟨rfl, j9, s9⟩
          have I9 : Hid (IsD w9 c8 1 D 12 m) := I8.out.step s9 (by decide) (by decide)
          have J9 : Hid (IsD w9 c8 2 C 12 mc) := j9
          have K9 : Hid (IsD w9 c8 3 X 12 m) := K8.out.step s9 (by decide) (by decide)
          have S9 : Hid (Sea w0 w9 c8) := S8.out.step s9 (by decide)
          obtain ⟨t1, t2⟩ := Cool.rdN CD8.out D8.out s9 (by decide)
          obtain ⟨t3, t4⟩ := Cool.rd CN8.out N8.out s9 (by decide)
          have D9 : Hid (RdN w9 (.slice ad ld cd) (Nats m.dirty)) := t1
          have N9 : Hid (Rd w9 (.slice an 384 cn) m.now) := t3
          have EQ9 : Hid (Blk w9 Q 32 (AC q (.slice ab q.B.length cb) (.slice ak q.keep.length ck))) := (show Blk _ _ _ _ by rw [HCQ.out]; exact E0.out.kept S9.out.below)
          have c2 := EQ9.out.cell (j := 2) rfl
          have c4 := EQ9.out.cell (j := 4) rfl
          clear j9 s9 t1 t2 t3 t4 I8 J8 K8 S8 D8 N8 E2 EQ9
          go_wp2_with fail
          refine (dCrash_any K9.out S9.out.norm _ q.keep q.n (HQ0.out.k.kept S9.out.below) HQ0.out.ws (S9.out.coolN HQ0.out.k)).mono ?_
          obtain ⟨mk, e1, e2, mo1, md1, mn1⟩ := crash_start PR.out.off q.keep q.n
          rw [e1]
          rintro e wa ⟨rfl, ca, ja, sa⟩
          have Ia : Hid (IsD wa ca 1 D 12 m) := I9.out.step sa (by decide) (by decide)
          have Ja : Hid (IsD wa ca 2 C 12 mc) := J9.out.step sa (by decide) (by decide)
          have Ka : Hid (IsD wa ca 3 X 12 (Pd.crash m q.keep q.n)) := ja
          have Sa : Hid (Sea w0 wa ca) := S9.out.step sa (by decide)
          obtain ⟨t1, t2⟩ := Cool.rdN CD8.out D9.out sa (by decide)
          obtain ⟨t3, t4⟩ := Cool.rd CN8.out N9.out sa (by decide)
          have Da : Hid (RdN wa (.slice ad ld cd) (Nats m.dirty)) := t1
          have CDa : Hid (Cool ca (.slice ad ld cd)) := t2
          have Na : Hid (Rd wa (.slice an 384 cn) m.now) := t3
          have CNa : Hid (Cool ca (.slice an 384 cn)) := t4
          have MK : Hid (mk.off = false ∧ mk.dirty = [] ∧ ∀ i, i / 32 ∉ m.dirty → mk.now[i]? = m.now[i]?) := ⟨mo1, md1, fun i hi => by rw [mn1]; exact Pd.crash_clean PR.out.ok _ _ hi⟩
          have E2 : Hid (Pd.start (Pd.crash m q.keep q.n) = (true, mk)) := e2
          clear ja sa t1 t2 t3 t4 I9 J9 K9 S9 D9 CD8 N9 CN8 e1 e2 mo1 md1 mn1 c2 c4
          go_wp2_with fail
          refine (dStart_any Ka.out Sa.out.norm).mono ?_
          rw [E2.out]
          rintro e wb ⟨rfl, jb, sb⟩
          have Ib : Hid (IsD wb ca 1 D 12 m) := Ia.out.step sb (by decide) (by decide)
          have Jb : Hid (IsD wb ca 2 C 12 mc) := Ja.out.step sb (by decide) (by decide)
          have Kb : Hid (IsD wb ca 3 X 12 mk) := jb
          have Sb : Hid (Sea w0 wb ca) := Sa.out.step sb (by decide)
          obtain ⟨t1, t2⟩ := Cool.rdN CDa.out Da.out sb (by decide)
          obtain ⟨t3, t4⟩ := Cool.rd CNa.out Na.out sb (by decide)
          have Db : Hid (RdN wb (.slice ad ld cd) (Nats m.dirty)) := t1
          have Nb : Hid (Rd wb (.slice an 384 cn) m.now) := t3
          clear jb sb t1 t2 t3 t4 Ia Ja Ka Sa Da CDa Na CNa E2
          go_wp2_with fail
          refine (dSize_any Jb.out).mono ?_
          rintro e wb' ⟨rfl, hw⟩
          subst hw
          go_wp2_with fail
          refine (dRead_any Jb.out 0 384 (by decide)).mono ?_
          rintro e wc ⟨vx, rfl, rx, -, bc⟩
          rw [show Pd.read mc 0 384 = (mc.now, 0) from read_all MC.out.1 Jb.out.ok.1.now, MC.out.2.2] at rx ⊢
          have Ic : Hid (IsD wc ca 1 D 12 m) := Ib.out.kept bc (fun _ _ => rfl)
          have Jc : Hid (IsD wc ca 2 C 12 mc) := Jb.out.kept bc (fun _ _ => rfl)
          have Kc : Hid (IsD wc ca 3 X 12 mk) := Kb.out.kept bc (fun _ _ => rfl)
          have Sc : Hid (Sea w0 wc ca) := Sb.out.kept bc
          have Dc : Hid (RdN wc (.slice ad ld cd) (Nats m.dirty)) := Db.out.kept bc
          have Nc : Hid (Rd wc (.slice an 384 cn) m.now) := Nb.out.kept bc
          have Xc : Hid (Rd wc vx m.now) := rx
          clear rx bc Ib Jb Kb Sb Db Nb
          go_wp2_with fail
          refine (dSize_any Kc.out).mono ?_
          rintro e wc' ⟨rfl, hw⟩
          subst hw
          go_wp2_with fail
          refine (dRead_any Kc.out 0 384 (by decide)).mono ?_
          rintro e wd ⟨vy, rfl, ry, -, bd⟩
          have hmk : mk.now.length = 384 := Kc.out.ok.1.now
          rw [show Pd.read mk 0 384 = (mk.now, 0) from read_all MK.out.1 Kc.out.ok.1.now] at ry ⊢
          have Id : Hid (IsD wd ca 1 D 12 m) := Ic.out.kept bd (fun _ _ => rfl)
          have Jd : Hid (IsD wd ca 2 C 12 mc) := Jc.out.kept bd (fun _ _ => rfl)
          have Kd : Hid (IsD wd ca 3 X 12 mk) := Kc.out.kept bd (fun _ _ => rfl)
          have Sd : Hid (Sea w0 wd ca) := Sc.out.kept bd
          have Dd : Hid (RdN wd (.slice ad ld cd) (Nats m.dirty)) := Dc.out.kept bd
          have Nd : Hid (Rd wd (.slice an 384 cn) m.now) := Nc.out.kept bd
          have Yd : Hid (Rd wd vy mk.now) := ry
          have k1 := (Xc.out.kept bd).conv (P := Try.prog) 29 9 Try.underlying29 Try.underlying5 Try.underlying9
          have k2 := Nd.out.conv (P := Try.prog) 29 9 Try.underlying29 Try.underlying5 Try.underlying9
          obtain ⟨ay, cy, hvy, -⟩ := ry
          subst hvy
          rw [hmk] at Yd ⊢
          clear bd Ic Jc Kc Sc Dc Nc Xc
          go_wp2_with fail
          go_loopg [143] 384 (fun g x wr => ∃ i : Nat, g + i = 384 ∧ x = .int .i64 (i : Int) ∧ Hid (Below wd.heap.size wd wr))
          case atStart => exact ⟨0, by omega, rfl, Below.refl _ _⟩
          case round =>
            clear k1 k2
            obtain ⟨i, hgi, rfl, LR⟩ := hrel
            by_cases hlt : i < 384
            · have q2 : (i : Int) < 384 := by omega
              have De : Hid (RdN wr (.slice ad ld cd) (Nats m.dirty)) := Dd.out.kept LR.out
              have Ne : Hid (Rd wr (.slice an 384 cn) m.now) := Nd.out.kept LR.out
              have Ye : Hid (Rd wr (.slice ay 384 cy) mk.now) := Yd.out.kept LR.out
              have hld : ld ≤ 9223372036854775807 := by obtain ⟨_, _, _, h, _⟩ := De.out.at; rw [HLD.out] at h; exact h
              obtain ⟨wq, hwq⟩ : ∃ x, x = wr := ⟨_, rfl⟩
              have LQ : Hid (Below wd.heap.size wd wq) := hwq ▸ LR
              have HWQ : Hid (wq = wr) := hwq
              rw [← hwq] at De Ne Ye
              clear hwq
              go_wp2_with fail
              go_loopg [18, 148] ld (fun g y x wt => ∃ j : Nat, g + j = ld ∧ x = .int .i64 (j : Int) ∧ y = .bool (noneOf (Nats m.dirty) ((i / 32 : Nat) : Int) j) ∧ wt = wq)
              case atStart => exact ⟨0, by omega, rfl, rfl, HWQ.out.symm⟩
              case round =>
                obtain ⟨j, hgj, rfl, rfl, rfl⟩ := hrel
                obtain ⟨bl, HBL⟩ : ∃ b, Hid (noneOf (Nats m.dirty) ((i / 32 : Nat) : Int) j = b) := ⟨_, rfl⟩
                rw [HBL.out]
                by_cases hj : j < ld
                · have q3 : (j : Int) < (ld : Int) := by omega
                  have hj' : j < (Nats m.dirty).length := by rw [HLD.out]; exact hj
                  obtain ⟨_, _, e1, -, h1⟩ := De.out.at
                  simp only [Value.slice.injEq] at e1
                  obtain ⟨rfl, -, rfl⟩ := e1
                  obtain ⟨ba, oa, rfl, hca⟩ := h1 (by omega)
                  have cc := hca j hj'
                  clear hca h1
                  obtain ⟨x, HX⟩ : ∃ x, Hid ((Nats m.dirty)[j] = x) := ⟨_, (show (Nats m.dirty)[j] = _ from rfl)⟩
                  rw [HX.out] at cc
                  have HS : Hid (noneOf (Nats m.dirty) ((i / 32 : Nat) : Int) (j + 1) = (bl && decide (x ≠ ((i / 32 : Nat) : Int)))) := (show noneOf (Nats m.dirty) ((i / 32 : Nat) : Int) (j + 1) = (bl && decide (x ≠ ((i / 32 : Nat) : Int))) by rw [noneOf_succ (List.getElem?_eq_getElem hj'), HX.out, HBL.out])
                  cases bl with
                  | false =>
                    go_wp2_with fail
                    go_roundg (gk - 1)
                    case measure => omega
                    case rel => exact ⟨j + 1, by omega, by go_num, by rw [HS.out]; rfl, rfl⟩
                  | true =>
                    go_wp2_with fail
                    go_roundg (gk - 1)
                    case measure => omega
                    case rel => exact ⟨j + 1, by omega, by go_num, by rw [HS.out]; simp; rfl, rfl⟩
                · obtain rfl : j = ld := by omega
                  go_wp2_with fail
                  have hi1 : i < m.now.length := by rw [hlen]; exact hlt
                  have hi2 : i < mk.now.length := by rw [hmk]; exact hlt
                  obtain ⟨_, _, e1, h1⟩ := Ne.out.at
                  simp only [Value.slice.injEq] at e1
                  obtain ⟨rfl, -, rfl⟩ := e1
                  obtain ⟨bn, on, rfl, hcn⟩ := h1 (by omega)
                  obtain ⟨_, _, e2, h2'⟩ := Ye.out.at
                  simp only [Value.slice.injEq] at e2
                  obtain ⟨rfl, -, rfl⟩ := e2
                  obtain ⟨by', oy, rfl, hcy⟩ := h2' (by omega)
                  have cn := hcn i hi1
                  have cy := hcy i hi2
                  obtain ⟨xn, HXN⟩ : ∃ x, Hid ((m.now[i].toNat : Int) = x) := ⟨_, (show (m.now[i].toNat : Int) = _ from rfl)⟩
                  obtain ⟨xy, HXY⟩ : ∃ x, Hid ((mk.now[i].toNat : Int) = x) := ⟨_, (show (mk.now[i].toNat : Int) = _ from rfl)⟩
                  rw [HXN.out] at cn
                  rw [HXY.out] at cy
                  have HC : Hid (bl = true → xy = xn) := (show _ from fun hb => by
                    have hni : i / 32 ∉ m.dirty := fun hm => by
                      rw [← HBL.out] at hb
                      unfold noneOf at hb
                      rw [List.take_of_length_le (by rw [HLD.out]; exact Nat.le_refl _), List.all_eq_true] at hb
                      have := hb ((i / 32 : Nat) : Int) (List.mem_map.2 ⟨_, hm, rfl⟩)
                      simp at this
                    have := MK.out.2.2 i hni
                    rw [List.getElem?_eq_getElem hi1, List.getElem?_eq_getElem hi2] at this
                    rw [← HXN.out, ← HXY.out, Option.some.inj this])
                  clear hcn hcy h1 h2'
                  cases bl with
                  | false =>
                    clear Id Jd Kd Sd Dd Nd Yd MC MK FIN E0 HQ0 HCQ HC De Ne Ye CQ1 HY PR
                    go_quiet (fail)
                    go_wp2_with fail
                    go_roundg (383 - i)
                    case measure => omega
                    case rel => exact ⟨i + 1, by omega, by go_num, LQ.out.trans ((below_drewN _ _ _).mono LQ.out.size)⟩
                  | true =>
                    have hxy := HC.out rfl
                    subst hxy
                    clear Id Jd Kd Sd Dd Nd Yd MC MK FIN E0 HQ0 HCQ HC De Ne Ye CQ1 HY PR
                    go_quiet (fail)
                    go_wp2_with fail
                    go_roundg (383 - i)
                    case measure => omega
                    case rel => exact ⟨i + 1, by omega, by go_num, LQ.out.trans ((below_drewN _ _ _).mono LQ.out.size)⟩
            · obtain rfl : i = 384 := by omega
              have Ie : Hid (IsD wr ca 1 D 12 m) := Id.out.kept LR.out (fun _ _ => rfl)
              have Je : Hid (IsD wr ca 2 C 12 mc) := Jd.out.kept LR.out (fun _ _ => rfl)
              have Ke : Hid (IsD wr ca 3 X 12 mk) := Kd.out.kept LR.out (fun _ _ => rfl)
              have Se : Hid (Sea w0 wr ca) := Sd.out.kept LR.out
              have De : Hid (RdN wr (.slice ad ld cd) (Nats m.dirty)) := Dd.out.kept LR.out
              clear Id Jd Kd Sd Dd Nd Yd LR
              go_wp2_with fail
              refine (dDirty_any Je.out).mono ?_
              rintro e wf ⟨v1, rfl, r1, -, bf⟩
              rw [MC.out.2.1] at r1
              obtain ⟨a1, cp1, hv1, -⟩ := r1
              subst hv1
              have If : Hid (IsD wf ca 1 D 12 m) := Ie.out.kept bf (fun _ _ => rfl)
              have Kf : Hid (IsD wf ca 3 X 12 mk) := Ke.out.kept bf (fun _ _ => rfl)
              have Sf : Hid (Sea w0 wf ca) := Se.out.kept bf
              have Df : Hid (RdN wf (.slice ad ld cd) (Nats m.dirty)) := De.out.kept bf
              clear bf Ie Je Ke Se De
              simp only [Nats, List.map_nil, List.length_nil]
              go_wp2_with fail
              refine (dDirty_any Kf.out).mono ?_
              rintro e wg ⟨v2, rfl, r2, -, bg⟩
              rw [MK.out.2.1] at r2
              obtain ⟨a2, cp2, hv2, -⟩ := r2
              subst hv2
              have Ig : Hid (IsD wg ca 1 D 12 m) := If.out.kept bg (fun _ _ => rfl)
              have Sg : Hid (Sea w0 wg ca) := Sf.out.kept bg
              have Dg : Hid (RdN wg (.slice ad ld cd) (Nats m.dirty)) := Df.out.kept bg
              clear bg If Kf Sf Df
              simp only [Nats, List.map_nil, List.length_nil]
              go_wp2_with fail
              refine (dDirty_any Ig.out).mono ?_
              rintro e wh ⟨v3, rfl, r3, -, bh⟩
              have Sh : Hid (Sea w0 wh ca) := Sg.out.kept bh
              have Dh : Hid (RdN wh (.slice ad ld cd) (Nats m.dirty)) := Dg.out.kept bh
              have Rh : Hid (RdN wh v3 (Nats m.dirty)) := r3
              clear r3 bh Ig Sg Dg
              go_wp2_with fail
              refine (ints_any Rh.out Dh.out).mono ?_
              rintro e wi ⟨rfl, bi⟩
              have Si : Hid (Sea w0 wi ca) := Sh.out.kept bi
              rw [decide_eq_true (rfl : Nats m.dirty = Nats m.dirty)]
              clear bi Sh Rh Dh
              go_wp2_with fail
              refine (FIN.out wi ca Si.out).mono ?_
              rintro e wj ⟨rfl, bj⟩
              have Bj : Hid (Below w.heap.size w wj) := bj
              clear bj
              go_wp2
              go_ret
              exact ⟨rfl, Bj.out⟩
end Go.Proofs.Ytnkcjhfdmnpckaa
