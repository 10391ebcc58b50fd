/-
  The document's session: Get: what the call does.
-/
import Derived.Test.YtcicekggeampcaaGreatYrC
namespace Go.Proofs.YtcicekggeampcaaGreat
open Go.RowKit
/-- Where one read more is kept. -/
theorem YAt.read {w w3 w4 : World} {B Y : Nat} {id : Int} {b : Yb} {t : Tx} (h : YAt w B Y id (some (b, t))) {x : Rz} {p9 : Option Addr} {n9 c9 : Nat} (hn : (b.Q ++ [x]).length = n9) (hx : OwnG PE w B 51 (xv x) x.ps) (hlen : b.Q.length < t.ops)
    (o3 : OwnG XE w3 B 58 (.slice p9 n9 c9) (b.Q ++ [x])) (c3 : Chg (fun k => b.v.ownBlock = some k) w w3) (hv : ∀ k, (Value.slice p9 n9 c9).ownBlock = some k → b.v.ownBlock = some k ∨ w.heap.size ≤ k)
    (d4 : Blk w4 Y 47 ((YC id (some (b, t))).set 5 (.slice p9 n9 c9))) (c4 : Chg (fun k => k = Y) w3 w4) {R : List Rp} (hR : (ownP (b.Q ++ [x])).map plR = R) :
    ∃ b', YAt w4 B Y id (some (b', { t with R := R })) ∧ Chg (YG Y (some (b, t))) w w4 ∧ ∀ k, YG Y (some (b', { t with R := R })) k → YG Y (some (b, t)) k ∨ w.heap.size ≤ k := by
  subst hn
  have ht := h.tx b t rfl
  have hvr : ∀ {k : Nat} {cs : Array Value} {T : TypeId} {p : Nat × Nat}, w.heap[k]? = some (.cells cs T p) → T ≠ 58 → ¬ b.v.ownBlock = some k := fun hk hT e => by
    obtain ⟨_, _, cur, hc⟩ := ht.row.block e
    exact cells_ne hk hc hT rfl
  have Y3 : Blk w3 Y 47 (YC id (some (b, t))) := h.x.chg c3 (hvr h.x (by decide))
  have hps : ∀ y : Rz, OwnG PE w B 51 (xv y) y.ps → OwnG PE w4 B 51 (xv y) y.ps := fun y hy => by
    have hq : ∀ k, (xv y).ownBlock = some k → ∃ cur, w.heap[k]? = some (.cells cur 51 (0, 0)) := fun k hk => by obtain ⟨_, _, cur, hc⟩ := hy.block hk; exact ⟨cur, hc⟩
    refine (hy.chg c3 (fun k hk => ?_)).chg c4 (fun k hk e => ?_)
    · obtain ⟨cur, hc⟩ := hq k hk
      exact hvr hc (by decide)
    · obtain ⟨cur, hc⟩ := hq k hk
      exact cells_ne hc h.x (by decide) e
  refine ⟨{ b with a := p9, c := c9, Q := b.Q ++ [x] }, ⟨d4, h.lo, fun b' t' e => ?_⟩, (c3.mono (fun k _ hk => .inr (.inr hk))).trans (c4.mono (fun k _ hk => .inl hk)), fun k hk => ?_⟩
  · cases e
    refine ⟨o3.chg c4 (fun k hk e => ?_), fun y hy => ?_, hR, (ht.buf.chg c3 (hvr ht.buf.d (by decide)) (fun k hk => ?_)).chg c4 (fun e => ?_) (fun k hk e => ?_), ht.lo, ?_, ht.ops⟩
    · obtain ⟨_, _, cur, hc⟩ := o3.block hk
      exact cells_ne hc Y3 (by decide) e
    · rcases List.mem_append.1 hy with hy | hy
      · exact hps y (ht.ps y hy)
      · rw [List.mem_singleton] at hy
        subst hy
        exact hps y hx
    · obtain ⟨_, _, cur, hc⟩ := ht.buf.own.block hk
      exact hvr hc (by decide)
    · exact cells_ne ht.buf.d h.x (by decide) e
    · obtain ⟨_, _, cur, hc⟩ := ht.buf.own.block hk
      exact cells_ne hc h.x (by decide) e
    · show (b.Q ++ [x]).length ≤ t.ops
      rw [List.length_append, List.length_singleton]
      omega
  · rcases hk with hk | hk | hk
    · exact .inl (.inl hk)
    · exact .inl (.inr (.inl hk))
    · exact (hv k hk).imp (fun e => .inr (.inr e)) (fun e => e)
theorem build_read0 (k : ByteArray) : ∀ W : World, (Instr.build 58 #[(1, .string k)]).run Tryz.prog W = .ok (.agg #[.bool false, .string k, .string ⟨#[]⟩, .slice none 0 0]) W := fun W => by kernel_rfl
theorem yGet_no {w : World} {B Y : Nat} {id : Int} (h : YAt w B Y id none) (v : Value) (k : ByteArray) : Calls Tryz.prog 20 #[PT Y, v, .string k] w fun e w' => e = .returned (.tuple #[.string ⟨#[]⟩, .int .i64 9]) ∧ w' = w := by
  have CM := hide (yMay_no h)
  clear h
  go_enter Tryz.func20, Tryz.ntmps20
  go_wp2_with fail
  refine CM.out.mono ?_
  rintro e w_ ⟨rfl, hw⟩
  subst w_
  go_wp2_with fail
  go_ret2
  exact ⟨rfl, rfl⟩
theorem RS.may {w w1 : World} {Y R : Nat} {vr : Value} {rs : List RK} {s : SP} (h : RS w R vr rs s) (hc : Chg (fun k => k = Y) w w1) (hY : ¬ SRB R vr rs Y) : RS w1 R vr rs s :=
  h.same (fun k hk => hc.block k (h.lt hk) (fun e => hY (e ▸ hk))) ⟨hc.os, hc.tape, hc.output, hc.size⟩
set_option maxHeartbeats 4000000 in
set_option maxRecDepth 100000 in
theorem yGet_any {w : World} {B Y R : Nat} {id : Int} {b : Yb} {t : Tx} {vr : Value} {rs : List RK} {s : SP} (h : YAt w B Y id (some (b, t))) (hs : RS w R vr rs s) (hY : ¬ SRB R vr rs Y) (hB : B ≤ w.heap.size) (hl : t.W.length ≤ 64) (k : ByteArray) :
    Calls Tryz.prog 20 #[PT Y, PT R, .string k] w fun e w' => RefPost w B Y id b t (getT s t k).2 (.tuple #[.string (getT s t k).1.1, .int .i64 (getT s t k).1.2]) e w' := by
  have H := hide h
  have HSR := hide hs
  have HY := hide hY
  have HB := hide hB
  have HL := hide hl
  have CA := hide (yMay_any h)
  obtain ⟨r, HR⟩ : ∃ r, Hid (getT s t k = r) := ⟨_, rfl⟩
  rw [HR.out]
  obtain ⟨⟨r1, r2⟩, t'⟩ := r
  simp only
  have hz := Zpair
  have hlr : ∀ W, (Builtin.len_ #[9] 3 #[.string k]).run Tryz.prog W = .ok (.int .i64 (k.size : Int)) W := fun W => by simp [Builtin.len_, go_sem]
  obtain ⟨kn, HKN⟩ : ∃ n, Hid (k.size = n) := ⟨_, rfl⟩
  rw [HKN.out] at hlr
  clear h hs hY hB hl
  go_enter Tryz.func20, Tryz.ntmps20
  go_wp2_with fail
  refine CA.out.mono ?_
  rintro e w1 (⟨hm, rfl, hw⟩ | ⟨hm, rfl, S1, C1⟩)
  · subst w1
    have hg := HR.out
    rw [getT_many hm] at hg
    cases hg
    go_wp2_with fail
    go_ret2
    exact ⟨rfl, b, H.out, Chg.refl _ _, fun k hk => .inl hk⟩
  · have HM : Hid (t.ops < 64) := hm
    have Y1 := hide S1
    have K1 : Hid (Chg (YG Y (some (b, t))) w w1) := (show Chg _ _ _ from C1.mono (fun k _ hk => .inl hk))
    have R1 := hide (HSR.out.may C1 HY.out)
    clear S1 C1 hm CA
    by_cases h1 : kn < 1
    · have q1 : decide ((kn : Int) < 1) = true := by simp; omega
      have hg := HR.out
      rw [getT_arg HM.out (.inl (by rw [HKN.out]; exact h1))] at hg
      cases hg
      go_wp2_with fail
      go_ret2
      exact ⟨rfl, b, Y1.out, K1.out, fun k hk => .inl hk⟩
    · have q1 : decide ((kn : Int) < 1) = false := by simp; omega
      by_cases h2 : 64 < kn
      · have q2 : decide (64 < (kn : Int)) = true := by simp; omega
        have hg := HR.out
        rw [getT_arg HM.out (.inr (by rw [HKN.out]; exact h2))] at hg
        cases hg
        go_wp2_with fail
        go_ret2
        exact ⟨rfl, b, Y1.out, K1.out, fun k hk => .inl hk⟩
      · have q2 : decide (64 < (kn : Int)) = false := by simp; omega
        have HKO : Hid (¬ (k.size < 1 ∨ 64 < k.size)) := (show ¬ _ by rw [HKN.out]; omega)
        have T1 := hide (Y1.out.tx b t.more rfl)
        have c6 := Y1.out.x.cell (j := 6) rfl
        obtain ⟨bB, HbB⟩ : ∃ z, Hid (b.B = z) := ⟨_, rfl⟩
        have CB := hide (rGet_any T1.out.buf HL.out k)
        obtain ⟨q, HQ⟩ : ∃ q, Hid ((getB t.more.W k).getD zp = q) := ⟨_, rfl⟩
        obtain ⟨ok, HO⟩ : ∃ q, Hid ((getB t.more.W k).isSome = q) := ⟨_, rfl⟩
        rw [HQ.out, HO.out, HbB.out] at CB
        rw [HbB.out] at c6
        go_wp2_with fail
        refine CB.out.mono ?_
        rintro e w2 ⟨rfl, hb2⟩
        obtain ⟨E2, HE2⟩ : ∃ E, Hid (w2.heap.size = E) := ⟨_, rfl⟩
        obtain ⟨w3, hw3⟩ : ∃ y, y = w2.alloc (.cells (PC q).toArray 51 (0, 0)) := ⟨_, rfl⟩
        obtain ⟨b3, l3⟩ := newB HE2 hw3
        have HW3 := hide hw3
        have L3 : Hid (Below w1.heap.size w1 w3) := (show Below _ _ _ from hb2.trans (l3.out.mono hb2.size))
        have Y3 := hide (Y1.out.kept L3.out)
        have K3 : Hid (Chg (YG Y (some (b, t))) w w3) := (show Chg _ _ _ from K1.out.trans (Chg.of_below L3.out))
        clear hb2 hw3 c6
        cases ok with
        | true =>
          obtain ⟨p, hp⟩ : ∃ p, getB t.W k = some p := Option.isSome_iff_exists.1 HO.out
          have hq : p = q := by
            have := HQ.out
            rw [show t.more.W = t.W from rfl, hp] at this
            exact this
          have hg := HR.out
          rw [getT_own HM.out HKO.out hp, hq] at hg
          obtain ⟨hg1, hg2⟩ := Prod.mk.inj hg
          subst hg2
          have d1 := b3.out.cell (j := 1) rfl
          have d2 := b3.out.cell (j := 2) rfl
          obtain ⟨z, HZ⟩ : ∃ z, Hid (q.2.2 = z) := ⟨_, rfl⟩
          rw [HZ.out] at d2
          unfold hadP at hg1
          rw [HZ.out] at hg1
          clear hg hp hq
          go_upto_region 7 with (first
            | (refine wpList_store_new rfl 51 _ _ rfl w2 _ (PC q).toArray _ rfl rfl rfl Tryz.size51 rfl (all_one (PC_one q)) ?_; rw [← HW3.out, HE2.out])
            | fail)
          cases z with
          | true =>
            rw [if_pos rfl] at hg1
            cases hg1
            go_wp2_with fail
            go_ret2
            exact ⟨rfl, b, Y3.out, K3.out, fun k hk => .inl hk⟩
          | false =>
            rw [if_neg (by decide)] at hg1
            obtain ⟨hg3, hg4⟩ := Prod.mk.inj hg1
            subst hg3
            subst hg4
            go_wp2_with fail
            go_ret2
            exact ⟨rfl, b, Y3.out, K3.out, fun k hk => .inl hk⟩
        | false =>
          have hp : getB t.W k = none := by
            have := HO.out
            rw [show t.more.W = t.W from rfl] at this
            cases hh : getB t.W k with
            | none => rfl
            | some p => rw [hh] at this; cases this
          obtain ⟨sn, HSN⟩ : ∃ z, Hid (t.snap = z) := ⟨_, rfl⟩
          have CG := hide (vGet_any (R1.out.kept L3.out) k sn)
          obtain ⟨⟨g1, g2⟩, HGS⟩ : ∃ g, Hid (getS s k t.snap = g) := ⟨_, rfl⟩
          rw [← HSN.out, HGS.out] at CG
          simp only at CG
          have HG : Hid (((r1, r2), t') = ((g1, g2), if g2 = 0 then { t.more with R := sawP t.R k [(k, g1, false)] } else if g2 = 8 then { t.more with R := sawP t.R k [] } else t.more)) := (show _ = _ by rw [← HR.out]; exact getT_store HM.out HKO.out hp HGS.out)
          have c32 := Y3.out.x.cell (j := 2) rfl
          rw [show t.more.snap = t.snap from rfl, HSN.out] at c32
          rw [HSN.out] at CG
          clear hp
          go_upto_region 7 with (first
            | (refine wpList_store_new rfl 51 _ _ rfl w2 _ (PC q).toArray _ rfl rfl rfl Tryz.size51 rfl (all_one (PC_one q)) ?_; rw [← HW3.out, HE2.out])
            | fail)
          go_wp2_with fail
          refine CG.out.mono ?_
          rintro e w4 ⟨rfl, hb4⟩
          have Y4 := hide (Y3.out.kept hb4)
          have K4 : Hid (Chg (YG Y (some (b, t))) w w4) := (show Chg _ _ _ from K3.out.trans (Chg.of_below hb4))
          have hB4 : Hid (B ≤ w4.heap.size) := (show B ≤ _ by have := K4.out.size; have := HB.out; omega)
          have T4 := hide (Y4.out.tx b t.more rfl)
          have c45 := Y4.out.x.cell (j := 5) rfl
          clear hb4 c32 CG
          have hlen : Hid (b.Q.length < t.more.ops) := (show b.Q.length < t.ops + 1 by
            have := (H.out.tx b t rfl).len
            omega)
          have hq9 : Hid (∀ x : Rz, b.Q.length + [x].length ≤ 10000000) := (show ∀ x : Rz, b.Q.length + 1 ≤ 10000000 from fun _ => by
            have h1 := (H.out.tx b t rfl).len
            have h2 := (H.out.tx b t rfl).ops
            omega)
          by_cases h0 : g2 = 0
          · have hg := HG.out
            rw [if_pos h0] at hg
            obtain ⟨hg1, hg2⟩ := Prod.mk.inj hg
            cases hg1
            subst h0
            obtain ⟨E4, HE4⟩ : ∃ E, Hid (w4.heap.size = E) := ⟨_, rfl⟩
            obtain ⟨w5, hw5⟩ : ∃ y, y = w4.alloc (.cells (PC (k, r1, false)).toArray 51 (0, 0)) := ⟨_, rfl⟩
            obtain ⟨b5, l5⟩ := newB HE4 hw5
            have HW5 := hide hw5
            obtain ⟨x, hx⟩ : ∃ x : Rz, x = ⟨false, k, em, [(k, r1, false)], some ⟨E4, 0, none⟩, 1⟩ := ⟨_, rfl⟩
            have HXC : Hid (XC x = [.bool false, .string k, .string ⟨#[]⟩, .slice (some ⟨E4, 0, none⟩) 1 1]) := (show _ = _ by rw [hx]; rfl)
            have HXO5 : Hid (OwnG PE w5 B 51 (xv x) x.ps) := (show OwnG _ _ _ _ _ _ by
              rw [hx, hw5]
              show OwnG PE _ B 51 (.slice (some ⟨E4, 0, none⟩) 1 1) [(k, r1, false)]
              rw [← HE4.out]
              exact ownE_one (E := PE) w4 B 51 (k, r1, false) hB4.out)
            have HXR : Hid ((ownP (b.Q ++ [x])).map plR = sawP t.R k [(k, r1, false)]) := (show _ = _ by
              have hpl : (ownP b.Q).map plR = t.R := T4.out.pl
              rw [own_read hpl x, hx]
              rfl)
            obtain ⟨E5, HE5⟩ : ∃ E, Hid (w5.heap.size = E) := ⟨_, rfl⟩
            obtain ⟨w6, hw6⟩ : ∃ y, y = w5.alloc (.cells (XC x).toArray 58 (0, 0)) := ⟨_, rfl⟩
            obtain ⟨b6, l6⟩ := newB HE5 hw6
            have HW6 := hide hw6
            have R6 : Hid (RdG XE w6 (.slice (some ⟨E5, 0, none⟩) 1 1) [x]) := (show RdG _ _ _ _ by rw [hw6, ← HE5.out]; exact rdG_one w5 58 x)
            have Y6 := hide ((Y4.out.kept l5.out).kept l6.out)
            have O6 : Hid (OwnG XE w6 B 58 b.v b.Q) := (show OwnG _ _ _ _ _ _ from (Y6.out.tx b t.more rfl).row)
            have HXO := hide (HXO5.out.kept l6.out)
            have hB6 : Hid (B ≤ w6.heap.size) := (show B ≤ _ by have := hB4.out; have := l5.out.size; have := l6.out.size; omega)
            have K6 : Hid (Chg (YG Y (some (b, t))) w w6) := (show Chg _ _ _ from (K4.out.trans (Chg.of_below l5.out)).trans (Chg.of_below l6.out))
            have hvY : Hid (∀ w7 : World, Chg (fun j => b.v.ownBlock = some j) w6 w7 → Blk w7 Y 47 (YC id (some (b, t.more)))) := (show _ from fun w7 c => Y6.out.x.chg c (fun e => by
              obtain ⟨_, _, cur, hc⟩ := O6.out.block e
              exact cells_ne hc Y6.out.x (by decide) rfl))
            have hbp := build_pair k r1
            have hbr := build_read k (some ⟨E4, 0, none⟩) 1 1
            clear hw5 hw6 hg hx
            go_upto_region 14 with fail
            go_wp2_with (first
              | (refine wpList_build1E (E := PE) (fun x W => build_row1 x W) rfl _ rfl (k, r1, false) rfl ?_; change wpList _ _ _ _ _ (w4.alloc (.cells (PC (k, r1, false)).toArray 51 (0, 0))); rw [← HW5.out, HE4.out])
              | (refine wpList_build1E (E := XE) (fun x W => build_read1 x W) rfl _ rfl x (by show _ = Value.agg (XC x).toArray; rw [HXC.out]; rfl) ?_; change wpList _ _ _ _ _ (w5.alloc (.cells (XC x).toArray 58 (0, 0))); rw [← HW6.out, HE5.out])
              | (refine wpList_append_E (E := XE) Tryz.underlying39 infoX (by decide) rfl (.tmp 57) (.tmp 64) rfl B b.v b.Q rfl O6.out _ [x] rfl R6.out (hq9.out x) hB6.out ?_; intro v7 w7 o7 g7 q7; have O7 := hide o7; have G7 := hide g7; have Q7 := hide q7; clear o7 g7 q7; obtain ⟨p9, c9, hv9⟩ := O7.out.form; obtain ⟨n2, hn2⟩ : ∃ k, (b.Q ++ [x] : List Rz).length = k := ⟨_, rfl⟩; rw [hn2] at hv9; subst hv9; have C7 : Hid (Chg (fun j => b.v.ownBlock = some j) w6 w7) := (show Chg _ _ _ from Chg.of_grown G7.out (fun j e _ => e)); have T7 := hide (hvY.out w7 C7.out))
              | (refine wpList_store_sl rfl 39 szr _ _ rfl Y 5 47 (YC id (some (b, t.more))) _ _ _ rfl rfl T7.out (by simp [YC]) ?_; intro w8 hb8 hu8)
              | fail)
            go_ret2
            obtain ⟨b', hy, hc, hG⟩ := Y6.out.read hn2 HXO.out hlen.out O7.out C7.out (fun j hj => (Q7.out j hj).imp (fun e => e) (fun h => Nat.le_of_eq h.symm)) hb8 (Chg.of_but hu8 rfl) HXR.out
            rw [hg2]
            refine ⟨rfl, b', hy, K6.out.trans hc, fun j hj => (hG j hj).imp (fun e => e) (fun h => Nat.le_trans K6.out.size h)⟩
          · have q0 : (g2 == 0) = false := by simp [h0]
            by_cases h8 : g2 = 8
            · have hg := HG.out
              rw [if_neg h0, if_pos h8] at hg
              obtain ⟨hg1, hg2⟩ := Prod.mk.inj hg
              cases hg1
              subst h8
              obtain ⟨x, hx⟩ : ∃ x : Rz, x = ⟨false, k, em, [], none, 0⟩ := ⟨_, rfl⟩
              have HXC : Hid (XC x = [.bool false, .string k, .string ⟨#[]⟩, .slice none 0 0]) := (show _ = _ by rw [hx]; rfl)
              have HXO5 : Hid (OwnG PE w4 B 51 (xv x) x.ps) := (show OwnG _ _ _ _ _ _ by rw [hx]; exact ownG_nil _ _ _)
              have HXR : Hid ((ownP (b.Q ++ [x])).map plR = sawP t.R k []) := (show _ = _ by
                have hpl : (ownP b.Q).map plR = t.R := T4.out.pl
                rw [own_read hpl x, hx]
                rfl)
              obtain ⟨E5, HE5⟩ : ∃ E, Hid (w4.heap.size = E) := ⟨_, rfl⟩
              obtain ⟨w6, hw6⟩ : ∃ y, y = w4.alloc (.cells (XC x).toArray 58 (0, 0)) := ⟨_, rfl⟩
              obtain ⟨b6, l6⟩ := newB HE5 hw6
              have HW6 := hide hw6
              have R6 : Hid (RdG XE w6 (.slice (some ⟨E5, 0, none⟩) 1 1) [x]) := (show RdG _ _ _ _ by rw [hw6, ← HE5.out]; exact rdG_one w4 58 x)
              have Y6 := hide (Y4.out.kept l6.out)
              have O6 : Hid (OwnG XE w6 B 58 b.v b.Q) := (show OwnG _ _ _ _ _ _ from (Y6.out.tx b t.more rfl).row)
              have HXO := hide (HXO5.out.kept l6.out)
              have hB6 : Hid (B ≤ w6.heap.size) := (show B ≤ _ by have := hB4.out; have := l6.out.size; omega)
              have K6 : Hid (Chg (YG Y (some (b, t))) w w6) := (show Chg _ _ _ from K4.out.trans (Chg.of_below l6.out))
              have hvY : Hid (∀ w7 : World, Chg (fun j => b.v.ownBlock = some j) w6 w7 → Blk w7 Y 47 (YC id (some (b, t.more)))) := (show _ from fun w7 c => Y6.out.x.chg c (fun e => by
                obtain ⟨_, _, cur, hc⟩ := O6.out.block e
                exact cells_ne hc Y6.out.x (by decide) rfl))
              have hbr := build_read0 k
              clear hw6 hg hx
              go_upto_region 16 with fail
              go_wp2_with (first
                | (refine wpList_build1E (E := XE) (fun x W => build_read1 x W) rfl _ rfl x (by show _ = Value.agg (XC x).toArray; rw [HXC.out]; rfl) ?_; change wpList _ _ _ _ _ (w4.alloc (.cells (XC x).toArray 58 (0, 0))); rw [← HW6.out, HE5.out])
                | (refine wpList_append_E (E := XE) Tryz.underlying39 infoX (by decide) rfl (.tmp 74) (.tmp 77) rfl B b.v b.Q rfl O6.out _ [x] rfl R6.out (hq9.out x) hB6.out ?_; intro v7 w7 o7 g7 q7; have O7 := hide o7; have G7 := hide g7; have Q7 := hide q7; clear o7 g7 q7; obtain ⟨p9, c9, hv9⟩ := O7.out.form; obtain ⟨n2, hn2⟩ : ∃ k, (b.Q ++ [x] : List Rz).length = k := ⟨_, rfl⟩; rw [hn2] at hv9; subst hv9; have C7 : Hid (Chg (fun j => b.v.ownBlock = some j) w6 w7) := (show Chg _ _ _ from Chg.of_grown G7.out (fun j e _ => e)); have T7 := hide (hvY.out w7 C7.out))
                | (refine wpList_store_sl rfl 39 szr _ _ rfl Y 5 47 (YC id (some (b, t.more))) _ _ _ rfl rfl T7.out (by simp [YC]) ?_; intro w8 hb8 hu8)
                | fail)
              go_ret2
              obtain ⟨b', hy, hc, hG⟩ := Y6.out.read hn2 HXO.out hlen.out O7.out C7.out (fun j hj => (Q7.out j hj).imp (fun e => e) (fun h => Nat.le_of_eq h.symm)) hb8 (Chg.of_but hu8 rfl) HXR.out
              rw [hg2]
              refine ⟨rfl, b', hy, K6.out.trans hc, fun j hj => (hG j hj).imp (fun e => e) (fun h => Nat.le_trans K6.out.size h)⟩
            · have q8 : (g2 == 8) = false := by simp [h8]
              have hg := HG.out
              rw [if_neg h0, if_neg h8] at hg
              cases hg
              go_wp2_with fail
              go_ret2
              exact ⟨rfl, b, Y4.out, K4.out, fun k hk => .inl hk⟩
end Go.Proofs.YtcicekggeampcaaGreat
