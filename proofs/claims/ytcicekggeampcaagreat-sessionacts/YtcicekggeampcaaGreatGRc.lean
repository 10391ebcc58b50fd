/-
  Texts that ride together: RfH RfI RfJ.
-/
import Derived.Test.YtcicekggeampcaaGreatGRb
/-
  The reference's Install: what the call does.
-/
namespace Go.Proofs.YtcicekggeampcaaGreat
open Go.RowKit
/-- While pairs are put. -/
structure RIns (w : World) (R : Nat) (vr : Value) (rs : List RK) (ch : ByteArray → List Ver) (la fl n : Int) (l : List Pr) (wr : World) (vi : Value) (ri : List RK) : Prop where
  r : RS0 wr R vi ri (addL ch n l) la fl
  c : Chg (fun b => b = R ∨ vr.ownBlock = some b) w wr
  b : ∀ b, SRB R vi ri b → SRB R vr rs b ∨ w.heap.size ≤ b
  v : ∀ b, vi.ownBlock = some b → vr.ownBlock = some b ∨ w.heap.size ≤ b
  len : ri.length ≤ rs.length + l.length
theorem RIns.kept {w : World} {R : Nat} {vr : Value} {rs : List RK} {ch : ByteArray → List Ver} {la fl n : Int} {l : List Pr} {wr : World} {vi : Value} {ri : List RK} (h : RIns w R vr rs ch la fl n l wr vi ri) {wb : World} (hb : Below wr.heap.size wr wb) : RIns w R vr rs ch la fl n l wb vi ri :=
  ⟨h.r.kept hb, h.c.trans (Chg.of_below hb), h.b, h.v, h.len⟩
theorem RIns.step {w : World} {R : Nat} {vr : Value} {rs : List RK} {ch : ByteArray → List Ver} {la fl n : Int} {l : List Pr} {wr : World} {vi : Value} {ri : List RK} (h : RIns w R vr rs ch la fl n l wr vi ri) {p : Pr} {wb : World} {vj : Value} {rj : List RK} (h1 : RS0 wb R vj rj (add1 (addL ch n l) n p) la fl) (h2 : Chg (fun b => b = R ∨ vi.ownBlock = some b) wr wb)
    (h3 : ∀ b, SRB R vj rj b → SRB R vi ri b ∨ wr.heap.size ≤ b) (h4 : rj.length ≤ ri.length + 1) (h5 : ∀ b, vj.ownBlock = some b → vi.ownBlock = some b ∨ wr.heap.size ≤ b) : RIns w R vr rs ch la fl n (l ++ [p]) wb vj rj := by
  have hsz := h.c.size
  refine ⟨by rw [addL_snoc]; exact h1, h.c.then h2 (fun b hb hf => ?_), fun b hb => ?_, fun b hb => ?_, by rw [List.length_append, List.length_singleton]; have := h.len; omega⟩
  · rcases hf with hf | hf
    · exact .inl hf
    · rcases h.v b hf with h6 | h6
      · exact .inr h6
      · omega
  · rcases h3 b hb with h6 | h6
    · exact h.b b h6
    · exact .inr (by omega)
  · rcases h5 b hb with h6 | h6
    · exact h.v b h6
    · exact .inr (by omega)
theorem RIns.pairs {w : World} {R : Nat} {vr : Value} {rs : List RK} {ch : ByteArray → List Ver} {la fl n : Int} {l : List Pr} {wr : World} {vi : Value} {ri : List RK} (h : RIns w R vr rs ch la fl n l wr vi ri) {vl : Value} {L : List Pr} (hr : RdG PE w vl L) (hap : ∀ b, InB vl b → ¬ SRB R vr rs b) : RdG PE wr vl L :=
  hr.chg h.c (fun b hb hf => hap b hb (hf.elim .inl (fun e => .inr (.inl e))))
theorem inst_mem {s : SP} {ks : List ByteArray} (h : Inv s ks) {l : List Pr} (hg : goodP em l = true) (n : Int) (k : ByteArray) : addL s.ch n l k ≠ [] ↔ k ∈ ks ∨ k ∈ freshP s l := by
  have hsl := goodP_srt hg
  rw [h.mem k, mem_fresh]
  by_cases hk : k ∈ l.map (·.1)
  · obtain ⟨p, hp, rfl⟩ := List.mem_map.1 hk
    rw [addL_some hsl hp]
    by_cases he : s.ch p.1 = []
    · simp [he, hk]
    · simp [he]
  · rw [addL_none hk]
    simp [hk]
theorem goodP_fresh {L : List Pr} (hg : goodP em L = true) {i : Nat} (hi : i < L.length) : (L[i]).1 ∉ (L.take i).map (·.1) := by
  intro hm
  obtain ⟨q, hq, e⟩ := List.mem_map.1 hm
  obtain ⟨j, hj, rfl⟩ := List.getElem_of_mem hq
  rw [List.length_take] at hj
  rw [List.getElem_take] at e
  have := List.pairwise_iff_getElem.1 (goodP_srt hg) j i (by simp; omega) (by simpa using hi) (by omega)
  simp only [List.getElem_map] at this
  rw [e, lt_irrefl] at this
  cases this
set_option maxRecDepth 100000 in
set_option maxHeartbeats 4000000 in
theorem vInstall_any {w : World} {R : Nat} {vr : Value} {rs : List RK} {s : SP} (h : RS w R vr rs s) {vl : Value} {L : List Pr} (hr : RdG PE w vl L) (hap : ∀ b, InB vl b → ¬ SRB R vr rs b) (hN : rs.length + L.length ≤ 1000000) (hla : s.last ≤ 1000000) (n : Int) :
    Calls Tryz.prog 31 #[.pointer (some ⟨R, 0, none⟩), .int .i64 n, vl] w fun e w' => e = .returned (.int .i64 (if instOk s n L = true then 0 else 2)) ∧ ∃ vr' rs', RS w' R vr' rs' (instP s n L) ∧ Chg (fun b => b = R ∨ vr.ownBlock = some b) w w' ∧ (∀ b, SRB R vr' rs' b → SRB R vr rs b ∨ w.heap.size ≤ b) ∧ (∀ b, vr'.ownBlock = some b → vr.ownBlock = some b ∨ w.heap.size ≤ b) ∧ rs'.length ≤ rs.length + L.length := by
  have HS := hide h
  have HR := hide hr
  have HAP := hide hap
  obtain ⟨al, cl, rfl⟩ := hr.slice
  have hn : L.length ≤ 9223372036854775807 := Nat.le_trans hr.cap hr.max
  clear h hr hap
  have hz := Zpair
  obtain ⟨m, HM⟩ : ∃ m, Hid (L.length = m) := ⟨_, rfl⟩
  rw [HM.out] at HR HAP hN hn
  obtain ⟨er, HER⟩ : ∃ x : Int, Hid ((if instOk s n L = true then 0 else 2) = x) := ⟨_, rfl⟩
  obtain ⟨s', HS'⟩ : ∃ x, Hid (instP s n L = x) := ⟨_, rfl⟩
  rw [HER.out, HS'.out]
  have hno : Hid (instOk s n L = false → er = 2 ∧ s' = s) := (show _ → _ from fun hq => ⟨by rw [← HER.out, hq]; rfl, by rw [← HS'.out]; unfold instP; rw [hq]; rfl⟩)
  have CG := hide (vGood_any HR.out)
  obtain ⟨gd_, HG⟩ : ∃ g, Hid (goodP em L = g) := ⟨_, rfl⟩
  rw [HG.out] at CG
  have hb0 : -1 ≤ s.last := by have := HS.out.inv.fl; have := HS.out.inv.fle; omega
  rw [HM.out]
  go_enter Tryz.func31, Tryz.ntmps31
  go_wp2_with fail
  refine CG.out.mono ?_
  rintro e w1 ⟨rfl, hb⟩
  have L1 := hide hb
  clear hb CG
  cases gd_ with
  | false =>
    obtain ⟨he, hs⟩ := hno.out (by unfold instOk; rw [HG.out]; rfl)
    go_wp2_with fail
    go_ret
    exact ⟨by rw [he]; rfl, _, rs, by rw [hs]; exact HS.out.kept L1.out, Chg.of_below L1.out, fun b hb => .inl hb, fun b hb => .inl hb, Nat.le_add_right _ _⟩
  | true =>
    have c1 : w1.cell? ⟨R, 1, none⟩ = some (.int .i64 s.last) := (HS.out.d.kept L1.out).cell (j := 1) rfl
    have q1 : IntKind.i64.wrap (s.last + 1) = s.last + 1 := wr64 (by omega) (by omega)
    by_cases hne : n = s.last + 1
    · have q2 : (n != s.last + 1) = false := by simp [hne]
      have hok : Hid (instOk s n L = true) := (show _ = _ by unfold instOk; rw [HG.out, hne]; simp)
      have HNE := hide hne
      clear hne hno
      have I0 : Hid (RIns w R vr rs s.ch s.last s.floor n [] w1 vr rs) := ⟨HS.out.zero.kept L1.out, Chg.of_below L1.out, fun b hb => .inl hb, fun b hb => .inl hb, by simp⟩
      go_wp2_with fail
      go_loopg [23] m (fun g x wr => ∃ (i : Nat) (vi : Value) (ri : List RK), g + i = m ∧ x = .int .i64 (i : Int) ∧ Hid (RIns w R vr rs s.ch s.last s.floor n (L.take i) wr vi ri))
      case atStart => exact ⟨0, vr, rs, by omega, rfl, by rw [List.take_zero]; exact I0⟩
      case round =>
        obtain ⟨i, vi, ri, hgi, rfl, IR⟩ := hrel
        by_cases hlt : i < m
        · have q3 : (i : Int) < (m : Int) := by omega
          have hrd := hide (IR.out.pairs HR.out HAP.out)
          obtain ⟨b, off, rfl, hlb4, hx⟩ := (hrd.out).nth (by omega)
          have hlt' : i < L.length := by rw [HM.out]; exact hlt
          have hr : wr.rangeAt b (off + i * 3) (PC L[i]) := hx i hlt'
          obtain ⟨p, HPp⟩ : ∃ p, Hid (L[i] = p) := ⟨L[i], (show L[i] = L[i] from rfl)⟩
          rw [HPp.out] at hr
          clear hx hlb4
          go_upto_region 6 with (first
            | (refine wpList_load_mid rfl 51 _ rfl b (off + i * 3) rfl (PC p) _ hr Tryz.underlying51 rfl Tryz.size51 ?_)
            | (refine wpList_store_new rfl 51 _ _ rfl wr _ (PC p).toArray _ rfl rfl rfl Tryz.size51 rfl (all_one (PC_one p)) ?_)
            | fail)
          obtain ⟨E, HE⟩ : ∃ E, Hid (wr.heap.size = E) := ⟨_, rfl⟩
          rw [HE.out]
          obtain ⟨w4, hw4⟩ : ∃ x, x = wr.alloc (.cells (PC p).toArray 51 (0, 0)) := ⟨_, rfl⟩
          rw [← hw4]
          have G4 : Hid (Below wr.heap.size wr w4) := (show Below _ _ _ by rw [hw4]; exact (Below.refl _ _).alloc (Nat.le_refl _) _)
          have B4 : Hid (Blk w4 E 51 (PC p)) := (show Blk _ _ _ _ by rw [hw4, ← HE.out]; exact Blk.new wr 51 (PC p))
          clear hw4 hr
          have I4 := hide (IR.out.kept G4.out)
          have hcl := HS.out.inv.len p.1
          have hfr : addL s.ch n (L.take i) p.1 = s.ch p.1 := by
            have := addL_none (n := n) (ch := s.ch) (goodP_fresh HG.out hlt')
            rw [HPp.out] at this
            exact this
          have hpo : Hid (putOk (addL s.ch n (L.take i) p.1) (verOf n p) = true) := (show _ = _ by
            rw [hfr, HNE.out]
            exact HS.out.inv.putOk (goodP_at HG.out p (by rw [← HPp.out]; exact List.getElem_mem hlt')).2.2.2)
          have hll := I4.out.len
          rw [List.length_take, HM.out] at hll
          have CP := hide (vput_any I4.out.r (by omega) p n hpo.out (by rw [hfr]; omega))
          have hrl := (B4.out).range0
          have HT : Hid (L.take (i + 1) = L.take i ++ [p]) := (show _ = _ by rw [List.take_succ_eq_append_getElem hlt', HPp.out])
          clear hfr hcl
          go_wp2_with (first
            | (refine wpList_load_mid rfl 51 _ rfl E 0 rfl (PC p) _ hrl Tryz.underlying51 rfl Tryz.size51 ?_)
            | fail)
          refine CP.out.mono ?_
          rintro e w5 ⟨rfl, vj, rj, h1, h2, h3, h4, h5⟩
          have I5 : Hid (RIns w R vr rs s.ch s.last s.floor n (L.take (i + 1)) w5 vj rj) := (show RIns _ _ _ _ _ _ _ _ _ _ _ _ by rw [HT.out]; exact I4.out.step h1 h2 h3 h4 h5)
          clear h1 h2 h3 h4 h5 CP hrl
          go_wp2_with fail
          go_roundg (gk - 1)
          case measure => omega
          case rel => exact ⟨i + 1, vj, rj, by omega, by go_num, I5⟩
        · obtain rfl : i = m := by omega
          have q3 : ¬ (i : Int) < (i : Int) := by omega
          rw [List.take_of_length_le (Nat.le_of_eq HM.out)] at IR
          have cR := IR.out.r.d.cell (j := 1) rfl
          have fR := IR.out.r.d.frozen 1
          have hset := hide (IR.out.r.d.set 1 (.int .i64 n))
          have hcs : Hid (Chg (fun b => b = R) wr (wr.setCell ⟨R, 1, none⟩ (.int .i64 n))) := Chg.setCell (F := fun b => b = R) _ rfl 1 _
          go_wp2_with fail
          go_ret
          have hs : s' = ⟨addL s.ch n L, n, s.floor⟩ := by rw [← HS'.out]; unfold instP; rw [hok.out]; rfl
          have hI := IR.out
          refine ⟨by rw [← HER.out, hok.out]; rfl, vi, ri, ?_, hI.c.trans (hcs.out.mono (fun _ _ e => .inl e)), hI.b, hI.v, HM.out ▸ hI.len⟩
          have hgR : ∀ b, vi.ownBlock = some b → b ≠ R := fun b hb e => by
            obtain ⟨_, _, cur, hc⟩ := hI.r.own.block hb
            have := hI.r.d
            unfold Blk at this
            rw [← e, hc] at this
            cases this
          rw [hs]
          refine ⟨hset.out, hI.r.own.chg hcs.out hgR, ?_, fun x hx => (hI.r.ch x hx).chg hcs.out (fun b hb => (hI.r.ap x hx b hb).1), hI.r.ap⟩
          have := inst_inv HS.out.inv HG.out hI.r.srt (fun k => (hI.r.mem k).trans (inst_mem HS.out.inv HG.out n k))
          rw [HNE.out]
          exact this
    · have q2 : (n != s.last + 1) = true := by simp [hne]
      obtain ⟨he, hs⟩ := hno.out (by unfold instOk; simp [hne])
      go_wp2_with fail
      go_ret
      exact ⟨by rw [he]; rfl, _, rs, by rw [hs]; exact HS.out.kept L1.out, Chg.of_below L1.out, fun b hb => .inl hb, fun b hb => .inl hb, Nat.le_add_right _ _⟩
end Go.Proofs.YtcicekggeampcaaGreat

/-
  The reference's Collect: what the call does.
-/
namespace Go.Proofs.YtcicekggeampcaaGreat
open Go.RowKit
section
variable {α : Type} {E : Enc α}
/-- append, and where the row lies. -/
theorem wpList_append_A {P : Program} (w : World) {ops : Array Oper} {rest : List Oper} {o : Oper} {a : Act} {Q : Exit → Act → World → Prop} (hgd : o.guard = none) (s x : Operand) (t tx : TypeId)
    (ho : o.op = .call { callee := .builtin .append, args := #[s, x], argTypes := #[t, tx] })
    (base : Nat) (e : TypeId) (z : Value) (bytes : Nat) (ht : P.underlying t = some (.slice e)) (hi : (P.info? e).map (fun i => (i.zero, i.size, i.bytes)) = some (some z, E.n, bytes)) (hzs : z.cells.size = E.n)
    (v : Value) (L : List α) (hv : a.eval s = v) (hown : OwnG E w base e v L)
    (xv : Value) (M : List α) (hx : a.eval x = xv) (hr : RdG E w xv M) (e' : TypeId) (htx : P.underlying tx = some (.slice e'))
    (hlen : (L.length + M.length) * bytes ≤ 140737488355328) (hm : L.length + M.length ≤ maxLen) (hbase : base ≤ w.heap.size)
    (h : ∀ v' w', OwnG E w' base e v' (L ++ M) → w.grownBy w' v.ownBlock → (∀ b, v'.ownBlock = some b → v.ownBlock = some b ∨ b = w.heap.size) → wpList P ops Q rest (a.put o.dst v') w') : wpList P ops Q (o :: rest) a w := by
  obtain ⟨i, hi0, hz0, hz1, hz2⟩ := info_parts hi
  refine wpList_plain hgd fun K hK => ?_
  obtain ⟨v', w', hr, h2, h3, h4⟩ := run_append_at (P := P) w base t tx o.type e i z E.n bytes ht hi0 hz0 hz1 hz2 hzs v L.length (E.cs L) hown xv M.length (E.cs M) (hr.src tx e' htx) hm hlen hbase
  unfold Oper.wp execOp
  simp only [ho, resolve, invoke, builtin, Sem.run_bind, Sem.run_pure, Result.andThen_ok, List.map_toArray, List.map_cons, List.map_nil, hv, hx, hr]
  refine hK _ _ (h v' w' ?_ h3 h4)
  unfold OwnG
  rw [List.length_append, Enc.cs_append]
  exact h2
end
/-- While keys are collected. -/
structure RCol (w : World) (R : Nat) (vr : Value) (rs : List RK) (ch : ByteArray → List Ver) (la n : Int) (i : Nat) (wr : World) (v : Value) (ro : List RK) : Prop where
  d : Blk wr R 34 (SRC vr la n)
  own : OwnG RKE wr 0 121 vr rs
  chs : ∀ x ∈ rs, RdV wr (rkv x) (ch x.1)
  o : OwnG RKE wr w.heap.size 121 v ro
  nm : ro.map (·.1) = colK ch n ((rs.take i).map (·.1))
  ch : ∀ x ∈ ro, RdV wr (rkv x) (trimP (ch x.1) n)
  ap : ∀ x ∈ ro, ∀ b, InB (rkv x) b → w.heap.size ≤ b ∧ v.ownBlock ≠ some b
  c : Chg (fun b => b = R) w wr
theorem RCol.kept {w : World} {R : Nat} {vr : Value} {rs : List RK} {ch : ByteArray → List Ver} {la n : Int} {i : Nat} {wr : World} {v : Value} {ro : List RK} (h : RCol w R vr rs ch la n i wr v ro) {wb : World} (hb : Below wr.heap.size wr wb) : RCol w R vr rs ch la n i wb v ro :=
  ⟨h.d.kept hb, h.own.kept hb, fun x hx => (h.chs x hx).kept hb, h.o.kept hb, h.nm, fun x hx => (h.ch x hx).kept hb, h.ap, h.c.trans (Chg.of_below hb)⟩
theorem RCol.len {w : World} {R : Nat} {vr : Value} {rs : List RK} {ch : ByteArray → List Ver} {la n : Int} {i : Nat} {wr : World} {v : Value} {ro : List RK} (h : RCol w R vr rs ch la n i wr v ro) : ro.length ≤ rs.length := by
  have h1 := congrArg List.length h.nm
  rw [List.length_map] at h1
  have h2 := colK_len ch n ((rs.take i).map (·.1))
  rw [List.length_map, List.length_take] at h2
  omega
theorem RCol.skip {w : World} {R : Nat} {vr : Value} {rs : List RK} {ch : ByteArray → List Ver} {la n : Int} {i : Nat} {wr : World} {v : Value} {ro : List RK} (h : RCol w R vr rs ch la n i wr v ro) (hi : i < rs.length) (ht : trimP (ch rs[i].1) n = []) : RCol w R vr rs ch la n (i + 1) wr v ro :=
  ⟨h.d, h.own, h.chs, h.o, by rw [h.nm, List.take_succ_eq_append_getElem hi, List.map_append, List.map_cons, List.map_nil, colK_snoc, ht]; simp, h.ch, h.ap, h.c⟩
theorem RCol.more {w : World} {R : Nat} {vr : Value} {rs : List RK} {ch : ByteArray → List Ver} {la n : Int} {i : Nat} {wr : World} {v : Value} {ro : List RK} (h : RCol w R vr rs ch la n i wr v ro) (hi : i < rs.length) (hne : trimP (ch rs[i].1) n ≠ []) (hap : ∀ x ∈ rs, ∀ b, InB (rkv x) b → b < w.heap.size) (hR : R < w.heap.size) (hvr : ∀ b, vr.ownBlock = some b → b < w.heap.size)
    {y : Option Addr × Nat × Nat} {B : Nat} {e : TypeId} (ho : OwnV wr B e (.slice y.1 y.2.1 y.2.2) (trimP (ch rs[i].1) n)) (hB : w.heap.size ≤ B) (hBv : ∀ b, v.ownBlock = some b → b < B) {wb : World} {v' : Value} (h1 : OwnG RKE wb w.heap.size 121 v' (ro ++ [(rs[i].1, y)])) (h2 : wr.grownBy wb v.ownBlock) (h3 : ∀ b, v'.ownBlock = some b → v.ownBlock = some b ∨ b = wr.heap.size) : RCol w R vr rs ch la n (i + 1) wb v' (ro ++ [(rs[i].1, y)]) := by
  have hsz := h.c.size
  have hc : Chg (fun b => v.ownBlock = some b) wr wb := Chg.of_grown h2 (fun b hb _ => hb)
  have hvo : ∀ b, v.ownBlock = some b → w.heap.size ≤ b ∧ b < wr.heap.size := fun b hb => ⟨(h.o.block hb).1, (h.o.block hb).2.1⟩
  have hyb : ∀ b, InB (.slice y.1 y.2.1 y.2.2) b → B ≤ b ∧ b < wr.heap.size := fun b hb => ⟨(ho.block (inB_own hb)).1, (ho.block (inB_own hb)).2.1⟩
  have hxb : ∀ x ∈ ro, ∀ b, InB (rkv x) b → b < wr.heap.size := by
    intro x hx b hb
    obtain ⟨off, k, cap, e', hp⟩ := hb
    have hr := h.ch x hx
    rw [e'] at hr
    obtain ⟨b', off', e2, h2, -⟩ := hr.nth hp
    cases e2
    exact h2
  refine ⟨h.d.chg hc (fun e' => by have := (hvo R e').1; omega), h.own.chg hc (fun b hb e' => by have := (hvo b e').1; have := hvr b hb; omega), fun x hx => (h.chs x hx).chg hc (fun b hb e' => by have := (hvo b e').1; have := hap x hx b hb; omega), h1, ?_, fun x hx => ?_, fun x hx b hb => ?_, ?_⟩
  · rw [List.map_append, List.map_cons, List.map_nil, h.nm, List.take_succ_eq_append_getElem hi, List.map_append, List.map_cons, List.map_nil, colK_snoc, if_neg (by simpa using hne)]
  · rcases List.mem_append.1 hx with hx | hx
    · exact (h.ch x hx).chg hc (fun b hb => (h.ap x hx b hb).2)
    · rw [List.mem_singleton] at hx
      subst hx
      exact ho.rd.chg hc (fun b hb e' => by have := (hyb b hb).1; have := hBv b e'; omega)
  · rcases List.mem_append.1 hx with hx | hx
    · refine ⟨(h.ap x hx b hb).1, fun e' => ?_⟩
      rcases h3 b e' with h4 | h4
      · exact (h.ap x hx b hb).2 h4
      · have := hxb x hx b hb; omega
    · rw [List.mem_singleton] at hx
      subst hx
      have h5 := hyb b hb
      refine ⟨by omega, fun e' => ?_⟩
      rcases h3 b e' with h4 | h4
      · have := hBv b h4; omega
      · omega
  · exact h.c.then hc (fun b hb e' => by have := (hvo b e').1; omega)
set_option maxRecDepth 100000 in
set_option maxHeartbeats 4000000 in
theorem vCollect_any {w : World} {R : Nat} {vr : Value} {rs : List RK} {s : SP} (h : RS w R vr rs s) (hN : rs.length ≤ 1000000) (hla : s.last ≤ 1000000) (n : Int) :
    Calls Tryz.prog 33 #[.pointer (some ⟨R, 0, none⟩), .int .i64 n] w fun e w' => e = .returned (.int .i64 (if collOk s n = true then 0 else 2)) ∧ ∃ vr' rs', RS w' R vr' rs' (collP s n) ∧ Chg (fun b => b = R) w w' ∧ (∀ b, SRB R vr' rs' b → SRB R vr rs b ∨ w.heap.size ≤ b) ∧ (∀ b, vr'.ownBlock = some b → vr.ownBlock = some b ∨ w.heap.size ≤ b) ∧ rs'.length ≤ rs.length := by
  have HS := hide h
  obtain ⟨ch, la, fl⟩ := s
  simp only at hla
  obtain ⟨a, cp, rfl⟩ := h.own.rd.slice
  have c1 := h.d.cell (j := 1) rfl
  have c2 := h.d.cell (j := 2) rfl
  have f2 := h.d.frozen 2
  simp only at c1 c2
  clear h
  have hz := Zrkey
  obtain ⟨m, HM⟩ : ∃ m, Hid (rs.length = m) := ⟨_, rfl⟩
  rw [HM.out] at HS hN
  obtain ⟨er, HER⟩ : ∃ x : Int, Hid ((if collOk ⟨ch, la, fl⟩ n = true then 0 else 2) = x) := ⟨_, rfl⟩
  obtain ⟨s', HS'⟩ : ∃ x, Hid (collP ⟨ch, la, fl⟩ n = x) := ⟨_, rfl⟩
  rw [HER.out, HS'.out, HM.out]
  have hno : Hid (collOk ⟨ch, la, fl⟩ n = false → er = 2 ∧ s' = ⟨ch, la, fl⟩) := (show _ → _ from fun hq => ⟨by rw [← HER.out, hq]; rfl, by rw [← HS'.out]; unfold collP; rw [hq]; rfl⟩)
  go_enter Tryz.func33, Tryz.ntmps33
  by_cases h1 : n < fl
  · have q1 : decide (n < fl) = true := by simp [h1]
    go_wp2_with fail
    go_ret
    obtain ⟨he, hs⟩ := hno.out (by unfold collOk; simp; omega)
    exact ⟨by rw [he]; rfl, _, rs, by rw [hs]; exact HS.out, Chg.refl _ _, fun b hb => .inl hb, fun b hb => .inl hb, HM.out ▸ Nat.le_refl _⟩
  · have q1 : decide (n < fl) = false := by simp; omega
    by_cases h2 : la < n
    · have q2 : decide (la < n) = true := by simp [h2]
      go_wp2_with fail
      go_ret
      obtain ⟨he, hs⟩ := hno.out (by unfold collOk; simp; omega)
      exact ⟨by rw [he]; rfl, _, rs, by rw [hs]; exact HS.out, Chg.refl _ _, fun b hb => .inl hb, fun b hb => .inl hb, HM.out ▸ Nat.le_refl _⟩
    · have q2 : decide (la < n) = false := by simp; omega
      have hok : Hid (collOk ⟨ch, la, fl⟩ n = true) := (show _ = _ by unfold collOk; simp; omega)
      clear hno
      have hR := HS.out.d.lt
      have hgR : Hid (∀ b, (Value.slice a m cp).ownBlock = some b → b ≠ R) := (show ∀ b, _ from fun b hb e => by
        obtain ⟨_, _, cur, hc⟩ := HS.out.own.block hb
        have := HS.out.d
        unfold Blk at this
        rw [← e, hc] at this
        cases this)
      have HAP : Hid (∀ x ∈ rs, ∀ b, InB (rkv x) b → b < w.heap.size) := (show ∀ x ∈ rs, _ from fun x hx b hb => by
        obtain ⟨off, k, cap, e', hp⟩ := hb
        have hr := HS.out.ch x hx
        rw [e'] at hr
        obtain ⟨b', off', e2, h2, -⟩ := hr.nth hp
        cases e2
        exact h2)
      have I0 : Hid (RCol w R (.slice a m cp) rs ch la n 0 (w.setCell ⟨R, 2, none⟩ (.int .i64 n)) (.slice none 0 0) []) := (show RCol _ _ _ _ _ _ _ _ _ _ _ from by
        have hc : Chg (fun b => b = R) w (w.setCell ⟨R, 2, none⟩ (.int .i64 n)) := Chg.setCell (F := fun b => b = R) _ (b := R) rfl 2 _
        exact ⟨HS.out.d.set 2 _, HS.out.own.chg hc hgR.out, fun x hx => (HS.out.ch x hx).chg hc (fun b hb => (HS.out.ap x hx b hb).1), ownG_nil _ _ _, by simp [colK], by simp, by simp, hc⟩)
      have c0 := I0.out.d.cell (j := 0) rfl
      go_wp2_with fail
      obtain ⟨w0, hw0⟩ : ∃ x, x = w.setCell ⟨R, 2, none⟩ (.int .i64 n) := ⟨_, rfl⟩
      rw [← hw0] at I0 c0 ⊢
      clear hw0 c0 c1 c2 f2
      go_loopg [5, 32] m (fun g y x wr => ∃ (i : Nat) (v : Value) (ro : List RK), g + i = m ∧ y = v ∧ x = .int .i64 (i : Int) ∧ Hid (RCol w R (.slice a m cp) rs ch la n i wr v ro))
      case atStart => exact ⟨0, .slice none 0 0, [], by omega, rfl, rfl, I0⟩
      case round =>
        obtain ⟨i, v, ro, hgi, hv, rfl, IR⟩ := hrel
        replace hv := hv.symm
        subst hv
        by_cases hlt : i < m
        · have q3 : (i : Int) < (m : Int) := by omega
          have hrd := hide IR.out.own.rd
          obtain ⟨b, off, rfl, hlb4, hx⟩ := (hrd.out).nth (by omega)
          have hlt' : i < rs.length := by rw [HM.out]; exact hlt
          have hr : wr.rangeAt b (off + i * 2) (RKC rs[i]) := hx i hlt'
          obtain ⟨p, HPp⟩ : ∃ p, Hid (rs[i] = p) := ⟨rs[i], (show rs[i] = rs[i] from rfl)⟩
          rw [HPp.out] at hr
          clear hx hlb4
          go_upto_region 8 with (first
            | (refine wpList_load_mid rfl 121 _ rfl b (off + i * 2) rfl (RKC p) _ hr Tryz.underlying121 rfl Tryz.size121 ?_)
            | (refine wpList_store_new rfl 121 _ _ rfl wr _ (RKC p).toArray _ rfl rfl rfl Tryz.size121 rfl (all_one (RKC_one p)) ?_)
            | fail)
          obtain ⟨E, HE⟩ : ∃ E, Hid (wr.heap.size = E) := ⟨_, rfl⟩
          rw [HE.out]
          obtain ⟨w4, hw4⟩ : ∃ x, x = wr.alloc (.cells (RKC p).toArray 121 (0, 0)) := ⟨_, rfl⟩
          rw [← hw4]
          have G4 : Hid (Below wr.heap.size wr w4) := (show Below _ _ _ by rw [hw4]; exact (Below.refl _ _).alloc (Nat.le_refl _) _)
          have B4 : Hid (Blk w4 E 121 (RKC p)) := (show Blk _ _ _ _ by rw [hw4, ← HE.out]; exact Blk.new wr 121 (RKC p))
          clear hw4 hr
          have I4 := hide (IR.out.kept G4.out)
          have HCH := hide (I4.out.chs p (by rw [← HPp.out]; exact List.getElem_mem hlt'))
          have hcl := HS.out.inv.len p.1
          have hlen := I4.out.len
          rw [HM.out] at hlen
          have CT := hide (ktrim_any HCH.out (by simp only at hcl; omega) n)
          obtain ⟨ky, ca, cn, cc⟩ := p
          simp only [rkv] at CT
          have d0 := B4.out.cell (j := 0) rfl
          have d1 := B4.out.cell (j := 1) rfl
          simp only at d0 d1
          clear HCH hcl
          go_wp2_with fail
          refine CT.out.mono ?_
          rintro e w5 ⟨vc, rfl, ho5, hb5⟩
          obtain ⟨⟨y1, y2, y3⟩, rfl⟩ := ho5.form
          have I5 := hide (I4.out.kept hb5)
          have B5 := hide (B4.out.kept hb5)
          have O5 := hide ho5
          have hky : (rs[i]'hlt').1 = ky := by rw [HPp.out]
          have hy2 := ho5.rd.len
          have hsz4 := hide (IR.out.c.size)
          have hg4 := hide G4.out.size
          have hb5s := hide hb5.size
          have V4 : Hid (∀ b, v.ownBlock = some b → b < w4.heap.size) := (show ∀ b, _ from fun b hb => (I4.out.o.block hb).2.1)
          clear hb5 ho5 CT d1
          simp only at hy2
          by_cases hy : y2 = 0
          · have q4 : ¬ 0 < y2 := by omega
            have q4' : decide ((0 : Int) < (y2 : Int)) = false := by simp; omega
            have I6 : Hid (RCol w R (.slice (some ⟨b, off, none⟩) m cp) rs ch la n (i + 1) w5 v ro) := (show RCol _ _ _ _ _ _ _ _ _ _ _ from I5.out.skip hlt' (by rw [hky]; exact List.eq_nil_of_length_eq_zero (by omega)))
            clear hy2
            subst hy
            go_wp2_with fail
            go_roundg (gk - 1)
            case measure => omega
            case rel => exact ⟨i + 1, v, ro, by omega, rfl, by go_num, I6⟩
          · have q4' : decide ((0 : Int) < (y2 : Int)) = true := by simp; omega
            have q4 : 0 < y2 := by omega
            have HNE : Hid (trimP (ch ky) n ≠ []) := (show _ from fun e => by rw [e] at hy2; simp at hy2; omega)
            have hbd : ∀ W, (Instr.build 121 #[(0, .string ky), (1, .slice y1 y2 y3)]).run Tryz.prog W = .ok (.agg #[.string ky, .slice y1 y2 y3]) W := fun W => by kernel_rfl
            have d0 := B5.out.cell (j := 0) rfl
            simp only at d0
            have A6 : Hid (Below w5.heap.size w5 (w5.alloc (.cells #[.string ky, .slice y1 y2 y3] 121 (0, 0)))) := (Below.refl _ _).alloc (Nat.le_refl _) _
            have OA := hide (I5.out.o.kept A6.out)
            have RA : Hid (RdG RKE (w5.alloc (.cells #[.string ky, .slice y1 y2 y3] 121 (0, 0))) (.slice (some ⟨w5.heap.size, 0, none⟩) 1 1) [(ky, y1, y2, y3)]) := rdG_one (E := RKE) w5 121 (ky, y1, y2, y3)
            have hb1 : Hid ((ro.length + [((ky, y1, y2, y3) : RK)].length) * 40 ≤ 140737488355328) := (show (ro.length + 1) * 40 ≤ 140737488355328 by omega)
            have hb2 : Hid (ro.length + [((ky, y1, y2, y3) : RK)].length ≤ maxLen) := (show ro.length + 1 ≤ maxLen by simp only [maxLen]; omega)
            have hb3 : Hid (w.heap.size ≤ (w5.alloc (.cells #[.string ky, .slice y1 y2 y3] 121 (0, 0))).heap.size) := (show w.heap.size ≤ _ by have := hsz4.out; have := hg4.out; have := hb5s.out; have := A6.out.size; omega)
            clear hy2
            obtain ⟨av, cv, ev⟩ := I5.out.o.rd.slice
            obtain ⟨lo, HLO⟩ : ∃ x, Hid (ro.length = x) := ⟨_, rfl⟩
            rw [HLO.out] at ev
            subst ev
            go_wp2_with (first
              | (at_builtin; refine wpList_append_A (E := RKE) _ rfl _ _ 32 32 rfl w.heap.size 121 (.agg #[.string ⟨#[]⟩, .slice none 0 0]) 40 Tryz.underlying32 Tryz.info121 rfl _ _ rfl OA.out _ [((ky, y1, y2, y3) : RK)] rfl RA.out 121 Tryz.underlying32 hb1.out hb2.out hb3.out ?_; intro v7 w7 o7 g7 k7; have O7 := hide o7; have G7 := hide g7; have K7 := hide k7; clear o7 g7 k7)
              | fail)
            have I8 : Hid (RCol w R (.slice (some ⟨b, off, none⟩) m cp) rs ch la n (i + 1) w7 v7 (ro ++ [((rs[i]'hlt').1, y1, y2, y3)])) := (show RCol _ _ _ _ _ _ _ _ _ _ _ from
              (I5.out.kept A6.out).more (y := (y1, y2, y3)) (B := w4.heap.size) (e := 140) hlt' (by rw [hky]; exact HNE.out) HAP.out hR (fun b hb => (HS.out.own.block hb).2.1) (by rw [hky]; exact O5.out.kept A6.out) (Nat.le_trans hsz4.out hg4.out) V4.out (by rw [hky]; exact O7.out) G7.out K7.out)
            clear OA RA hb1 hb2 hb3 O7 G7 K7 hbd A6
            go_roundg (gk - 1)
            case measure => omega
            case rel => exact ⟨i + 1, v7, _, by omega, rfl, by go_num, I8⟩
        · obtain rfl : i = m := by omega
          have q3 : ¬ (i : Int) < (i : Int) := by omega
          have cR := IR.out.d.cell (j := 0) rfl
          have fR := IR.out.d.frozen 0
          have hset := hide (IR.out.d.set 0 v)
          have hcs : Hid (Chg (fun b => b = R) wr (wr.setCell ⟨R, 0, none⟩ v)) := Chg.setCell (F := fun b => b = R) _ rfl 0 _
          obtain ⟨av, nv, cv, ev⟩ : ∃ a n c, v = .slice a n c := by obtain ⟨xa, xc, h⟩ := IR.out.o.rd.slice; exact ⟨_, _, _, h⟩
          subst ev
          go_wp2_with fail
          go_ret
          have hs : s' = ⟨fun k => trimP (ch k) n, la, n⟩ := by rw [← HS'.out]; unfold collP; rw [hok.out]; rfl
          have hI := IR.out
          have hnm := hI.nm
          rw [List.take_of_length_le (Nat.le_of_eq HM.out)] at hnm
          refine ⟨by rw [← HER.out, hok.out]; rfl, _, ro, ?_, hI.c.trans hcs.out, fun b hb => ?_, fun b hb => .inr (hI.o.block hb).1, HM.out ▸ hI.len⟩
          · rw [hs]
            refine ⟨hset.out, (hI.o.mono (Nat.zero_le _)).chg hcs.out (fun b hb e => by have := (hI.o.block hb).1; omega), ?_, fun x hx => (hI.ch x hx).chg hcs.out (fun b hb e => by have := (hI.ap x hx b hb).1; omega), fun x hx b hb => ⟨by have := (hI.ap x hx b hb).1; omega, (hI.ap x hx b hb).2⟩⟩
            rw [hnm]
            exact coll_inv HS.out.inv (by simp only; omega) (by simp only; omega)
          · rcases hb with hb | hb | ⟨x, hx, hb⟩
            · exact .inl (.inl hb)
            · exact .inr (hI.o.block hb).1
            · exact .inr (hI.ap x hx b hb).1
end Go.Proofs.YtcicekggeampcaaGreat

/-
  The store and the reference's store, side by side, act by act.
-/
namespace Go.Proofs.YtcicekggeampcaaGreat
open Go.RowKit
theorem RS.lt {w : World} {R : Nat} {vr : Value} {rs : List RK} {s : SP} (h : RS w R vr rs s) {b : Nat} (hb : SRB R vr rs b) : b < w.heap.size := by
  rcases hb with rfl | hb | ⟨x, hx, hb⟩
  · exact h.d.lt
  · exact (h.own.block hb).2.1
  · obtain ⟨off, n, cap, e', hp⟩ := hb
    have hr := h.ch x hx
    rw [e'] at hr
    obtain ⟨b', off', e2, h2, -⟩ := hr.nth hp
    cases e2
    exact h2
/-- The store reads s, the reference's t; blocks of O are none of theirs. -/
def LR2 (w wr : World) (D R i : Nat) (s t : SP) (O : Nat → Prop) : Prop :=
  ∃ vr rs, LS w wr D i s (fun b => O b ∨ SRB R vr rs b) ∧ RS wr R vr rs t ∧ (∀ b, SRB R vr rs b → w.heap.size ≤ b) ∧ (∀ b, O b → ¬ SRB R vr rs b) ∧ rs.length ≤ 60 * i ∧ t.last ≤ i
theorem LR2.ls {w wr : World} {D R i : Nat} {s t : SP} {O : Nat → Prop} (h : LR2 w wr D R i s t O) : LS w wr D i s O := by
  obtain ⟨vr, rs, h1, -⟩ := h
  exact h1.less (fun b hb => .inl hb)
theorem LR2.lo {w wr : World} {D R i : Nat} {s t : SP} {O : Nat → Prop} (h : LR2 w wr D R i s t O) : Below w.heap.size w wr := h.ls.lo
theorem LR2.rs {w wr : World} {D R i : Nat} {s t : SP} {O : Nat → Prop} (h : LR2 w wr D R i s t O) : ∃ vr rs, RS wr R vr rs t ∧ rs.length ≤ 60 * i := by
  obtain ⟨vr, rs, h1, h2, h3, h4, h5, h6⟩ := h
  exact ⟨vr, rs, h2, h5⟩
theorem LR2.kept {w wr wr' : World} {D R i : Nat} {s t : SP} {O : Nat → Prop} (h : LR2 w wr D R i s t O) (hb : Below wr.heap.size wr wr') : LR2 w wr' D R i s t O := by
  obtain ⟨vr, rs, h1, h2, h3, h4, h5, h6⟩ := h
  exact ⟨vr, rs, h1.kept hb, h2.kept hb, h3, h4, h5, h6⟩
theorem LR2.mono {w wr : World} {D R i j : Nat} {s t : SP} {O : Nat → Prop} (h : LR2 w wr D R i s t O) (hij : i ≤ j) : LR2 w wr D R j s t O := by
  obtain ⟨vr, rs, h1, h2, h3, h4, h5, h6⟩ := h
  exact ⟨vr, rs, h1.mono hij, h2, h3, h4, by omega, by omega⟩
theorem LR2.less {w wr : World} {D R i : Nat} {s t : SP} {O O' : Nat → Prop} (h : LR2 w wr D R i s t O) (hO : ∀ b, O' b → O b) : LR2 w wr D R i s t O' := by
  obtain ⟨vr, rs, h1, h2, h3, h4, h5, h6⟩ := h
  exact ⟨vr, rs, h1.less (fun b hb => hb.elim (fun h => .inl (hO b h)) .inr), h2, h3, fun b hb => h4 b (hO b hb), h5, h6⟩
/-- A block that is new is none of theirs. -/
theorem LR2.own {w wr wr' : World} {D R i : Nat} {s t : SP} {O : Nat → Prop} (h : LR2 w wr D R i s t O) (hb : Below wr.heap.size wr wr') {E : Nat} (hE : wr.heap.size ≤ E) (hE' : E < wr'.heap.size) : LR2 w wr' D R i s t (fun b => O b ∨ b = E) := by
  obtain ⟨vr, rs, h1, h2, h3, h4, h5, h6⟩ := h
  refine ⟨vr, rs, (h1.own hb hE hE').less (fun b hb' => ?_), h2.kept hb, h3, fun b hO hr => ?_, h5, h6⟩
  · rcases hb' with (h | h) | h
    · exact .inl (.inl h)
    · exact .inr h
    · exact .inl (.inr h)
  · rcases hO with hO | rfl
    · exact h4 b hO hr
    · have := h2.lt hr; omega
theorem lo_same {w wr w' : World} (h1 : Below w.heap.size w wr) (h2 : Below w.heap.size w w') (h3 : wr.heap.size ≤ w'.heap.size) : w'.os = wr.os ∧ w'.tape = wr.tape ∧ w'.output = wr.output ∧ wr.heap.size ≤ w'.heap.size :=
  ⟨h2.os.trans h1.os.symm, h2.tape.trans h1.tape.symm, h2.output.trans h1.output.symm, h3⟩
/-- An act of the store's. -/
theorem LR2.step {w wr w' : World} {D R i j : Nat} {s s' t : SP} {O : Nat → Prop} {vr : Value} {rs : List RK} (h1 : LS w wr D i s (fun b => O b ∨ SRB R vr rs b)) (h2 : RS wr R vr rs t) (h3 : ∀ b, SRB R vr rs b → w.heap.size ≤ b) (h4 : ∀ b, O b → ¬ SRB R vr rs b) (h5 : rs.length ≤ 60 * i) (h6 : t.last ≤ i)
    (hij : i ≤ j) (k1 : LS w w' D j s' (fun b => O b ∨ SRB R vr rs b)) (k2 : Same (fun b => O b ∨ SRB R vr rs b) wr w') (k3 : wr.heap.size ≤ w'.heap.size) : LR2 w w' D R j s' t O ∧ Same O wr w' ∧ wr.heap.size ≤ w'.heap.size :=
  ⟨⟨vr, rs, k1, h2.same (fun b hb => k2 b (.inr hb)) (lo_same h1.lo k1.lo k3), h3, h4, by omega, by omega⟩, fun b hb => k2 b (.inl hb), k3⟩
/-- An act of the reference's. -/
theorem LR2.vstep {w wr w' : World} {D R i j : Nat} {s t t' : SP} {O : Nat → Prop} {vr vr' : Value} {rs rs' : List RK} (h1 : LS w wr D i s (fun b => O b ∨ SRB R vr rs b)) (h2 : RS wr R vr rs t) (h3 : ∀ b, SRB R vr rs b → w.heap.size ≤ b) (h4 : ∀ b, O b → ¬ SRB R vr rs b)
    (hij : i ≤ j) (k1 : RS w' R vr' rs' t') (k2 : Chg (fun b => b = R ∨ vr.ownBlock = some b) wr w') (k3 : ∀ b, SRB R vr' rs' b → SRB R vr rs b ∨ wr.heap.size ≤ b) (k4 : rs'.length ≤ 60 * j) (k5 : t'.last ≤ j) : LR2 w w' D R j s t' O ∧ Same O wr w' ∧ wr.heap.size ≤ w'.heap.size := by
  have hOlt : ∀ b, O b → b < wr.heap.size := fun b hb => by
    obtain ⟨M, vk, ks, -, -, -, h⟩ := h1
    exact (h b (.inl hb)).1
  have hFR : ∀ b, (b = R ∨ vr.ownBlock = some b) → SRB R vr rs b := fun b hb => hb.elim .inl (fun h => .inr (.inl h))
  refine ⟨⟨vr', rs', ?_, k1, fun b hb => ?_, fun b hb hr => ?_, k4, k5⟩, fun b hb => k2.block b (hOlt b hb) (fun hf => h4 b hb (hFR b hf)), k2.size⟩
  · have hc := h1.chg k2 (fun b hf => ⟨.inr (hFR b hf), h3 b (hFR b hf)⟩) h2.noch
    obtain ⟨M, vk, ks, g1, g2, g3, g4⟩ := hc.mono hij
    obtain ⟨M0, vk0, ks0, q1, q2, q3, q4⟩ := h1
    refine ⟨M0, vk0, ks0, ⟨q1.st.chg k2 (fun b hb hf => (q4 b (.inr (hFR b hf))).2 hb) h2.noch, q1.hD, q1.hM, q1.hk, q1.lo.trans (k2.below q1.lo.size (fun k hk hf => by have := h3 k (hFR k hf); omega))⟩, by omega, by omega, fun b hb => ?_⟩
    rcases hb with hb | hb
    · exact ⟨Nat.lt_of_lt_of_le (q4 b (.inl hb)).1 k2.size, (q4 b (.inl hb)).2⟩
    · refine ⟨k1.lt hb, fun hm => ?_⟩
      rcases k3 b hb with h | h
      · exact (q4 b (.inr h)).2 hm
      · have := q1.st.lt hm; omega
  · rcases k3 b hb with h | h
    · exact h3 b h
    · exact Nat.le_trans h1.lo.size h
  · rcases k3 b hr with h | h
    · exact h4 b hb h
    · have := hOlt b hb; omega
/-- What an act makes of a store. -/
def actS (s : SP) (k n : Int) (l : List Pr) : SP := if k = 0 then instP s (s.last + 1) l else if k = 1 then instP s n l else if k = 2 then collP s n else s
theorem wp_call_at {P : Program} {o : Oper} {a : Act} {w : World} {T : World → Prop} {Q : Exit → Act → World → Prop} (f : FuncId) (args : Array Value) (v : Value) (hrun : (execOp a.eval o).run P w = .ok (.enter f args) w)
    (hc : Calls P f args w fun e w' => e = .returned v ∧ T w') : o.wp P a w (fun a' w' => a' = a.put o.dst v ∧ T w') Q := by
  unfold Oper.wp
  rw [hrun]
  refine hc.mono ?_
  rintro e w' ⟨rfl, hv⟩
  exact ⟨rfl, hv⟩
end Go.Proofs.YtcicekggeampcaaGreat
