/-
  The reference's Collect: what the call does.
-/
import Derived.Test.YtgaoionnfkbhaaaRfH
namespace Go.Proofs.Ytgaoionnfkbhaaa
open Go.RowKit
section
variable {α : Type} {E : Enc α}
/-- append, and where the row lies. -/
theorem wpList_append_A {P : Program} (w : World) {ops : Array Oper} {rest : List Oper} {o : Oper} {a : Act} {Q : Exit → Act → World → Prop} (hgd : o.guard = none) (s x : Operand) (t tx : TypeId)
    (ho : o.op = .call { callee := .builtin .append, args := #[s, x], argTypes := #[t, tx] })
    (base : Nat) (e : TypeId) (z : Value) (bytes : Nat) (ht : P.underlying t = some (.slice e)) (hi : (P.info? e).map (fun i => (i.zero, i.size, i.bytes)) = some (some z, E.n, bytes)) (hzs : z.cells.size = E.n)
    (v : Value) (L : List α) (hv : a.eval s = v) (hown : OwnG E w base e v L)
    (xv : Value) (M : List α) (hx : a.eval x = xv) (hr : RdG E w xv M) (e' : TypeId) (htx : P.underlying tx = some (.slice e'))
    (hlen : (L.length + M.length) * bytes ≤ 140737488355328) (hm : L.length + M.length ≤ maxLen) (hbase : base ≤ w.heap.size)
    (h : ∀ v' w', OwnG E w' base e v' (L ++ M) → w.grownBy w' v.ownBlock → (∀ b, v'.ownBlock = some b → v.ownBlock = some b ∨ b = w.heap.size) → wpList P ops Q rest (a.put o.dst v') w') : wpList P ops Q (o :: rest) a w := by
  obtain ⟨i, hi0, hz0, hz1, hz2⟩ := info_parts hi
  refine wpList_plain hgd fun K hK => ?_
  obtain ⟨v', w', hr, h2, h3, h4⟩ := run_append_at (P := P) w base t tx o.type e i z E.n bytes ht hi0 hz0 hz1 hz2 hzs v L.length (E.cs L) hown xv M.length (E.cs M) (hr.src tx e' htx) hm hlen hbase
  unfold Oper.wp execOp
  simp only [ho, resolve, invoke, builtin, Sem.run_bind, Sem.run_pure, Result.andThen_ok, List.map_toArray, List.map_cons, List.map_nil, hv, hx, hr]
  refine hK _ _ (h v' w' ?_ h3 h4)
  unfold OwnG
  rw [List.length_append, Enc.cs_append]
  exact h2
end
/-- While keys are collected. -/
structure RCol (w : World) (R : Nat) (vr : Value) (rs : List RK) (ch : ByteArray → List Ver) (la n : Int) (i : Nat) (wr : World) (v : Value) (ro : List RK) : Prop where
  d : Blk wr R 30 (RC vr la n)
  own : OwnG RKE wr 0 69 vr rs
  chs : ∀ x ∈ rs, RdV wr (rkv x) (ch x.1)
  o : OwnG RKE wr w.heap.size 69 v ro
  nm : ro.map (·.1) = colK ch n ((rs.take i).map (·.1))
  ch : ∀ x ∈ ro, RdV wr (rkv x) (trimP (ch x.1) n)
  ap : ∀ x ∈ ro, ∀ b, InB (rkv x) b → w.heap.size ≤ b ∧ v.ownBlock ≠ some b
  c : Chg (fun b => b = R) w wr
theorem RCol.kept {w : World} {R : Nat} {vr : Value} {rs : List RK} {ch : ByteArray → List Ver} {la n : Int} {i : Nat} {wr : World} {v : Value} {ro : List RK} (h : RCol w R vr rs ch la n i wr v ro) {wb : World} (hb : Below wr.heap.size wr wb) : RCol w R vr rs ch la n i wb v ro :=
  ⟨h.d.kept hb, h.own.kept hb, fun x hx => (h.chs x hx).kept hb, h.o.kept hb, h.nm, fun x hx => (h.ch x hx).kept hb, h.ap, h.c.trans (Chg.of_below hb)⟩
theorem RCol.len {w : World} {R : Nat} {vr : Value} {rs : List RK} {ch : ByteArray → List Ver} {la n : Int} {i : Nat} {wr : World} {v : Value} {ro : List RK} (h : RCol w R vr rs ch la n i wr v ro) : ro.length ≤ rs.length := by
  have h1 := congrArg List.length h.nm
  rw [List.length_map] at h1
  have h2 := colK_len ch n ((rs.take i).map (·.1))
  rw [List.length_map, List.length_take] at h2
  omega
theorem RCol.skip {w : World} {R : Nat} {vr : Value} {rs : List RK} {ch : ByteArray → List Ver} {la n : Int} {i : Nat} {wr : World} {v : Value} {ro : List RK} (h : RCol w R vr rs ch la n i wr v ro) (hi : i < rs.length) (ht : trimP (ch rs[i].1) n = []) : RCol w R vr rs ch la n (i + 1) wr v ro :=
  ⟨h.d, h.own, h.chs, h.o, by rw [h.nm, List.take_succ_eq_append_getElem hi, List.map_append, List.map_cons, List.map_nil, colK_snoc, ht]; simp, h.ch, h.ap, h.c⟩
theorem RCol.more {w : World} {R : Nat} {vr : Value} {rs : List RK} {ch : ByteArray → List Ver} {la n : Int} {i : Nat} {wr : World} {v : Value} {ro : List RK} (h : RCol w R vr rs ch la n i wr v ro) (hi : i < rs.length) (hne : trimP (ch rs[i].1) n ≠ []) (hap : ∀ x ∈ rs, ∀ b, InB (rkv x) b → b < w.heap.size) (hR : R < w.heap.size) (hvr : ∀ b, vr.ownBlock = some b → b < w.heap.size)
    {y : Option Addr × Nat × Nat} {B : Nat} {e : TypeId} (ho : OwnV wr B e (.slice y.1 y.2.1 y.2.2) (trimP (ch rs[i].1) n)) (hB : w.heap.size ≤ B) (hBv : ∀ b, v.ownBlock = some b → b < B) {wb : World} {v' : Value} (h1 : OwnG RKE wb w.heap.size 69 v' (ro ++ [(rs[i].1, y)])) (h2 : wr.grownBy wb v.ownBlock) (h3 : ∀ b, v'.ownBlock = some b → v.ownBlock = some b ∨ b = wr.heap.size) : RCol w R vr rs ch la n (i + 1) wb v' (ro ++ [(rs[i].1, y)]) := by
  have hsz := h.c.size
  have hc : Chg (fun b => v.ownBlock = some b) wr wb := Chg.of_grown h2 (fun b hb _ => hb)
  have hvo : ∀ b, v.ownBlock = some b → w.heap.size ≤ b ∧ b < wr.heap.size := fun b hb => ⟨(h.o.block hb).1, (h.o.block hb).2.1⟩
  have hyb : ∀ b, InB (.slice y.1 y.2.1 y.2.2) b → B ≤ b ∧ b < wr.heap.size := fun b hb => ⟨(ho.block (inB_own hb)).1, (ho.block (inB_own hb)).2.1⟩
  have hxb : ∀ x ∈ ro, ∀ b, InB (rkv x) b → b < wr.heap.size := by
    intro x hx b hb
    obtain ⟨off, k, cap, e', hp⟩ := hb
    have hr := h.ch x hx
    rw [e'] at hr
    obtain ⟨b', off', e2, h2, -⟩ := hr.nth hp
    cases e2
    exact h2
  refine ⟨h.d.chg hc (fun e' => by have := (hvo R e').1; omega), h.own.chg hc (fun b hb e' => by have := (hvo b e').1; have := hvr b hb; omega), fun x hx => (h.chs x hx).chg hc (fun b hb e' => by have := (hvo b e').1; have := hap x hx b hb; omega), h1, ?_, fun x hx => ?_, fun x hx b hb => ?_, ?_⟩
  · rw [List.map_append, List.map_cons, List.map_nil, h.nm, List.take_succ_eq_append_getElem hi, List.map_append, List.map_cons, List.map_nil, colK_snoc, if_neg (by simpa using hne)]
  · rcases List.mem_append.1 hx with hx | hx
    · exact (h.ch x hx).chg hc (fun b hb => (h.ap x hx b hb).2)
    · rw [List.mem_singleton] at hx
      subst hx
      exact ho.rd.chg hc (fun b hb e' => by have := (hyb b hb).1; have := hBv b e'; omega)
  · rcases List.mem_append.1 hx with hx | hx
    · refine ⟨(h.ap x hx b hb).1, fun e' => ?_⟩
      rcases h3 b e' with h4 | h4
      · exact (h.ap x hx b hb).2 h4
      · have := hxb x hx b hb; omega
    · rw [List.mem_singleton] at hx
      subst hx
      have h5 := hyb b hb
      refine ⟨by omega, fun e' => ?_⟩
      rcases h3 b e' with h4 | h4
      · have := hBv b h4; omega
      · omega
  · exact h.c.then hc (fun b hb e' => by have := (hvo b e').1; omega)
set_option maxRecDepth 100000 in
set_option maxHeartbeats 4000000 in
theorem vCollect_any {w : World} {R : Nat} {vr : Value} {rs : List RK} {s : SP} (h : RS w R vr rs s) (hN : rs.length ≤ 1000000) (hla : s.last ≤ 1000000) (n : Int) :
    Calls Try.prog 30 #[.pointer (some ⟨R, 0, none⟩), .int .i64 n] w fun e w' => e = .returned (.int .i64 (if collOk s n = true then 0 else 2)) ∧ ∃ vr' rs', RS w' R vr' rs' (collP s n) ∧ Chg (fun b => b = R) w w' ∧ (∀ b, RB R vr' rs' b → RB R vr rs b ∨ w.heap.size ≤ b) ∧ (∀ b, vr'.ownBlock = some b → vr.ownBlock = some b ∨ w.heap.size ≤ b) ∧ rs'.length ≤ rs.length := by
  have HS := hide h
  obtain ⟨ch, la, fl⟩ := s
  simp only at hla
  obtain ⟨a, cp, rfl⟩ := h.own.rd.slice
  have c1 := h.d.cell (j := 1) rfl
  have c2 := h.d.cell (j := 2) rfl
  have f2 := h.d.frozen 2
  simp only at c1 c2
  clear h
  have hz := Zrkey
  obtain ⟨m, HM⟩ : ∃ m, Hid (rs.length = m) := ⟨_, rfl⟩
  rw [HM.out] at HS hN
  obtain ⟨er, HER⟩ : ∃ x : Int, Hid ((if collOk ⟨ch, la, fl⟩ n = true then 0 else 2) = x) := ⟨_, rfl⟩
  obtain ⟨s', HS'⟩ : ∃ x, Hid (collP ⟨ch, la, fl⟩ n = x) := ⟨_, rfl⟩
  rw [HER.out, HS'.out, HM.out]
  have hno : Hid (collOk ⟨ch, la, fl⟩ n = false → er = 2 ∧ s' = ⟨ch, la, fl⟩) := (show _ → _ from fun hq => ⟨by rw [← HER.out, hq]; rfl, by rw [← HS'.out]; unfold collP; rw [hq]; rfl⟩)
  go_enter Try.func30, Try.ntmps30
  by_cases h1 : n < fl
  · have q1 : decide (n < fl) = true := by simp [h1]
    go_wp2_with fail
    go_ret
    obtain ⟨he, hs⟩ := hno.out (by unfold collOk; simp; omega)
    exact ⟨by rw [he]; rfl, _, rs, by rw [hs]; exact HS.out, Chg.refl _ _, fun b hb => .inl hb, fun b hb => .inl hb, HM.out ▸ Nat.le_refl _⟩
  · have q1 : decide (n < fl) = false := by simp; omega
    by_cases h2 : la < n
    · have q2 : decide (la < n) = true := by simp [h2]
      go_wp2_with fail
      go_ret
      obtain ⟨he, hs⟩ := hno.out (by unfold collOk; simp; omega)
      exact ⟨by rw [he]; rfl, _, rs, by rw [hs]; exact HS.out, Chg.refl _ _, fun b hb => .inl hb, fun b hb => .inl hb, HM.out ▸ Nat.le_refl _⟩
    · have q2 : decide (la < n) = false := by simp; omega
      have hok : Hid (collOk ⟨ch, la, fl⟩ n = true) := (show _ = _ by unfold collOk; simp; omega)
      clear hno
      have hR := HS.out.d.lt
      have hgR : Hid (∀ b, (Value.slice a m cp).ownBlock = some b → b ≠ R) := (show ∀ b, _ from fun b hb e => by
        obtain ⟨_, _, cur, hc⟩ := HS.out.own.block hb
        have := HS.out.d
        unfold Blk at this
        rw [← e, hc] at this
        cases this)
      have HAP : Hid (∀ x ∈ rs, ∀ b, InB (rkv x) b → b < w.heap.size) := (show ∀ x ∈ rs, _ from fun x hx b hb => by
        obtain ⟨off, k, cap, e', hp⟩ := hb
        have hr := HS.out.ch x hx
        rw [e'] at hr
        obtain ⟨b', off', e2, h2, -⟩ := hr.nth hp
        cases e2
        exact h2)
      have I0 : Hid (RCol w R (.slice a m cp) rs ch la n 0 (w.setCell ⟨R, 2, none⟩ (.int .i64 n)) (.slice none 0 0) []) := (show RCol _ _ _ _ _ _ _ _ _ _ _ from by
        have hc : Chg (fun b => b = R) w (w.setCell ⟨R, 2, none⟩ (.int .i64 n)) := Chg.setCell (F := fun b => b = R) _ (b := R) rfl 2 _
        exact ⟨HS.out.d.set 2 _, HS.out.own.chg hc hgR.out, fun x hx => (HS.out.ch x hx).chg hc (fun b hb => (HS.out.ap x hx b hb).1), ownG_nil _ _ _, by simp [colK], by simp, by simp, hc⟩)
      have c0 := I0.out.d.cell (j := 0) rfl
      go_wp2_with fail
      obtain ⟨w0, hw0⟩ : ∃ x, x = w.setCell ⟨R, 2, none⟩ (.int .i64 n) := ⟨_, rfl⟩
      rw [← hw0] at I0 c0 ⊢
      clear hw0 c0 c1 c2 f2
      go_loopg [5, 32] m (fun g y x wr => ∃ (i : Nat) (v : Value) (ro : List RK), g + i = m ∧ y = v ∧ x = .int .i64 (i : Int) ∧ Hid (RCol w R (.slice a m cp) rs ch la n i wr v ro))
      case atStart => exact ⟨0, .slice none 0 0, [], by omega, rfl, rfl, I0⟩
      case round =>
        obtain ⟨i, v, ro, hgi, hv, rfl, IR⟩ := hrel
        replace hv := hv.symm
        subst hv
        by_cases hlt : i < m
        · have q3 : (i : Int) < (m : Int) := by omega
          have hrd := hide IR.out.own.rd
          obtain ⟨b, off, rfl, hlb4, hx⟩ := (hrd.out).nth (by omega)
          have hlt' : i < rs.length := by rw [HM.out]; exact hlt
          have hr : wr.rangeAt b (off + i * 2) (RKC rs[i]) := hx i hlt'
          obtain ⟨p, HPp⟩ : ∃ p, Hid (rs[i] = p) := ⟨rs[i], (show rs[i] = rs[i] from rfl)⟩
          rw [HPp.out] at hr
          clear hx hlb4
          go_upto_region 8 with (first
            | (refine wpList_load_mid rfl 69 _ rfl b (off + i * 2) rfl (RKC p) _ hr Try.underlying69 rfl Try.size69 ?_)
            | (refine wpList_store_new rfl 69 _ _ rfl wr _ (RKC p).toArray _ rfl rfl rfl Try.size69 rfl (all_one (RKC_one p)) ?_)
            | fail)
          obtain ⟨E, HE⟩ : ∃ E, Hid (wr.heap.size = E) := ⟨_, rfl⟩
          rw [HE.out]
          obtain ⟨w4, hw4⟩ : ∃ x, x = wr.alloc (.cells (RKC p).toArray 69 (0, 0)) := ⟨_, rfl⟩
          rw [← hw4]
          have G4 : Hid (Below wr.heap.size wr w4) := (show Below _ _ _ by rw [hw4]; exact (Below.refl _ _).alloc (Nat.le_refl _) _)
          have B4 : Hid (Blk w4 E 69 (RKC p)) := (show Blk _ _ _ _ by rw [hw4, ← HE.out]; exact Blk.new wr 69 (RKC p))
          clear hw4 hr
          have I4 := hide (IR.out.kept G4.out)
          have HCH := hide (I4.out.chs p (by rw [← HPp.out]; exact List.getElem_mem hlt'))
          have hcl := HS.out.inv.len p.1
          have hlen := I4.out.len
          rw [HM.out] at hlen
          have CT := hide (ktrim_any HCH.out (by simp only at hcl; omega) n)
          obtain ⟨ky, ca, cn, cc⟩ := p
          simp only [rkv] at CT
          have d0 := B4.out.cell (j := 0) rfl
          have d1 := B4.out.cell (j := 1) rfl
          simp only at d0 d1
          clear HCH hcl
          go_wp2_with fail
          refine CT.out.mono ?_
          rintro e w5 ⟨vc, rfl, ho5, hb5⟩
          obtain ⟨⟨y1, y2, y3⟩, rfl⟩ := ho5.form
          have I5 := hide (I4.out.kept hb5)
          have B5 := hide (B4.out.kept hb5)
          have O5 := hide ho5
          have hky : (rs[i]'hlt').1 = ky := by rw [HPp.out]
          have hy2 := ho5.rd.len
          have hsz4 := hide (IR.out.c.size)
          have hg4 := hide G4.out.size
          have hb5s := hide hb5.size
          have V4 : Hid (∀ b, v.ownBlock = some b → b < w4.heap.size) := (show ∀ b, _ from fun b hb => (I4.out.o.block hb).2.1)
          clear hb5 ho5 CT d1
          simp only at hy2
          by_cases hy : y2 = 0
          · have q4 : ¬ 0 < y2 := by omega
            have q4' : decide ((0 : Int) < (y2 : Int)) = false := by simp; omega
            have I6 : Hid (RCol w R (.slice (some ⟨b, off, none⟩) m cp) rs ch la n (i + 1) w5 v ro) := (show RCol _ _ _ _ _ _ _ _ _ _ _ from I5.out.skip hlt' (by rw [hky]; exact List.eq_nil_of_length_eq_zero (by omega)))
            clear hy2
            subst hy
            go_wp2_with fail
            go_roundg (gk - 1)
            case measure => omega
            case rel => exact ⟨i + 1, v, ro, by omega, rfl, by go_num, I6⟩
          · have q4' : decide ((0 : Int) < (y2 : Int)) = true := by simp; omega
            have q4 : 0 < y2 := by omega
            have HNE : Hid (trimP (ch ky) n ≠ []) := (show _ from fun e => by rw [e] at hy2; simp at hy2; omega)
            have hbd : ∀ W, (Instr.build 69 #[(0, .string ky), (1, .slice y1 y2 y3)]).run Try.prog W = .ok (.agg #[.string ky, .slice y1 y2 y3]) W := fun W => by kernel_rfl
            have d0 := B5.out.cell (j := 0) rfl
            simp only at d0
            have A6 : Hid (Below w5.heap.size w5 (w5.alloc (.cells #[.string ky, .slice y1 y2 y3] 69 (0, 0)))) := (Below.refl _ _).alloc (Nat.le_refl _) _
            have OA := hide (I5.out.o.kept A6.out)
            have RA : Hid (RdG RKE (w5.alloc (.cells #[.string ky, .slice y1 y2 y3] 69 (0, 0))) (.slice (some ⟨w5.heap.size, 0, none⟩) 1 1) [(ky, y1, y2, y3)]) := rdG_one (E := RKE) w5 69 (ky, y1, y2, y3)
            have hb1 : Hid ((ro.length + [((ky, y1, y2, y3) : RK)].length) * 40 ≤ 140737488355328) := (show (ro.length + 1) * 40 ≤ 140737488355328 by omega)
            have hb2 : Hid (ro.length + [((ky, y1, y2, y3) : RK)].length ≤ maxLen) := (show ro.length + 1 ≤ maxLen by simp only [maxLen]; omega)
            have hb3 : Hid (w.heap.size ≤ (w5.alloc (.cells #[.string ky, .slice y1 y2 y3] 69 (0, 0))).heap.size) := (show w.heap.size ≤ _ by have := hsz4.out; have := hg4.out; have := hb5s.out; have := A6.out.size; omega)
            clear hy2
            obtain ⟨av, cv, ev⟩ := I5.out.o.rd.slice
            obtain ⟨lo, HLO⟩ : ∃ x, Hid (ro.length = x) := ⟨_, rfl⟩
            rw [HLO.out] at ev
            subst ev
            go_wp2_with (first
              | (at_builtin; refine wpList_append_A (E := RKE) _ rfl _ _ 28 28 rfl w.heap.size 69 (.agg #[.string ⟨#[]⟩, .slice none 0 0]) 40 Try.underlying28 Try.info69 rfl _ _ rfl OA.out _ [((ky, y1, y2, y3) : RK)] rfl RA.out 69 Try.underlying28 hb1.out hb2.out hb3.out ?_; intro v7 w7 o7 g7 k7; have O7 := hide o7; have G7 := hide g7; have K7 := hide k7; clear o7 g7 k7)
              | fail)
            have I8 : Hid (RCol w R (.slice (some ⟨b, off, none⟩) m cp) rs ch la n (i + 1) w7 v7 (ro ++ [((rs[i]'hlt').1, y1, y2, y3)])) := (show RCol _ _ _ _ _ _ _ _ _ _ _ from
              (I5.out.kept A6.out).more (y := (y1, y2, y3)) (B := w4.heap.size) (e := 87) hlt' (by rw [hky]; exact HNE.out) HAP.out hR (fun b hb => (HS.out.own.block hb).2.1) (by rw [hky]; exact O5.out.kept A6.out) (Nat.le_trans hsz4.out hg4.out) V4.out (by rw [hky]; exact O7.out) G7.out K7.out)
            clear OA RA hb1 hb2 hb3 O7 G7 K7 hbd A6
            go_roundg (gk - 1)
            case measure => omega
            case rel => exact ⟨i + 1, v7, _, by omega, rfl, by go_num, I8⟩
        · obtain rfl : i = m := by omega
          have q3 : ¬ (i : Int) < (i : Int) := by omega
          have cR := IR.out.d.cell (j := 0) rfl
          have fR := IR.out.d.frozen 0
          have hset := hide (IR.out.d.set 0 v)
          have hcs : Hid (Chg (fun b => b = R) wr (wr.setCell ⟨R, 0, none⟩ v)) := Chg.setCell (F := fun b => b = R) _ rfl 0 _
          obtain ⟨av, nv, cv, ev⟩ : ∃ a n c, v = .slice a n c := by obtain ⟨xa, xc, h⟩ := IR.out.o.rd.slice; exact ⟨_, _, _, h⟩
          subst ev
          go_wp2_with fail
          go_ret
          have hs : s' = ⟨fun k => trimP (ch k) n, la, n⟩ := by rw [← HS'.out]; unfold collP; rw [hok.out]; rfl
          have hI := IR.out
          have hnm := hI.nm
          rw [List.take_of_length_le (Nat.le_of_eq HM.out)] at hnm
          refine ⟨by rw [← HER.out, hok.out]; rfl, _, ro, ?_, hI.c.trans hcs.out, fun b hb => ?_, fun b hb => .inr (hI.o.block hb).1, HM.out ▸ hI.len⟩
          · rw [hs]
            refine ⟨hset.out, (hI.o.mono (Nat.zero_le _)).chg hcs.out (fun b hb e => by have := (hI.o.block hb).1; omega), ?_, fun x hx => (hI.ch x hx).chg hcs.out (fun b hb e => by have := (hI.ap x hx b hb).1; omega), fun x hx b hb => ⟨by have := (hI.ap x hx b hb).1; omega, (hI.ap x hx b hb).2⟩⟩
            rw [hnm]
            exact coll_inv HS.out.inv (by simp only; omega) (by simp only; omega)
          · rcases hb with hb | hb | ⟨x, hx, hb⟩
            · exact .inl (.inl hb)
            · exact .inr (hI.o.block hb).1
            · exact .inr (hI.ap x hx b hb).1
#print axioms vCollect_any
end Go.Proofs.Ytgaoionnfkbhaaa
