/-
  The reference's Install: what the call does.
-/
import Derived.Test.YtgaoionnfkbhaaaRfF
namespace Go.Proofs.Ytgaoionnfkbhaaa
open Go.RowKit
/-- While pairs are put. -/
structure RIns (w : World) (R : Nat) (vr : Value) (rs : List RK) (ch : ByteArray → List Ver) (la fl n : Int) (l : List Pr) (wr : World) (vi : Value) (ri : List RK) : Prop where
  r : RS0 wr R vi ri (addL ch n l) la fl
  c : Chg (fun b => b = R ∨ vr.ownBlock = some b) w wr
  b : ∀ b, RB R vi ri b → RB R vr rs b ∨ w.heap.size ≤ b
  v : ∀ b, vi.ownBlock = some b → vr.ownBlock = some b ∨ w.heap.size ≤ b
  len : ri.length ≤ rs.length + l.length
theorem RIns.kept {w : World} {R : Nat} {vr : Value} {rs : List RK} {ch : ByteArray → List Ver} {la fl n : Int} {l : List Pr} {wr : World} {vi : Value} {ri : List RK} (h : RIns w R vr rs ch la fl n l wr vi ri) {wb : World} (hb : Below wr.heap.size wr wb) : RIns w R vr rs ch la fl n l wb vi ri :=
  ⟨h.r.kept hb, h.c.trans (Chg.of_below hb), h.b, h.v, h.len⟩
theorem RIns.step {w : World} {R : Nat} {vr : Value} {rs : List RK} {ch : ByteArray → List Ver} {la fl n : Int} {l : List Pr} {wr : World} {vi : Value} {ri : List RK} (h : RIns w R vr rs ch la fl n l wr vi ri) {p : Pr} {wb : World} {vj : Value} {rj : List RK} (h1 : RS0 wb R vj rj (add1 (addL ch n l) n p) la fl) (h2 : Chg (fun b => b = R ∨ vi.ownBlock = some b) wr wb)
    (h3 : ∀ b, RB R vj rj b → RB R vi ri b ∨ wr.heap.size ≤ b) (h4 : rj.length ≤ ri.length + 1) (h5 : ∀ b, vj.ownBlock = some b → vi.ownBlock = some b ∨ wr.heap.size ≤ b) : RIns w R vr rs ch la fl n (l ++ [p]) wb vj rj := by
  have hsz := h.c.size
  refine ⟨by rw [addL_snoc]; exact h1, h.c.then h2 (fun b hb hf => ?_), fun b hb => ?_, fun b hb => ?_, by rw [List.length_append, List.length_singleton]; have := h.len; omega⟩
  · rcases hf with hf | hf
    · exact .inl hf
    · rcases h.v b hf with h6 | h6
      · exact .inr h6
      · omega
  · rcases h3 b hb with h6 | h6
    · exact h.b b h6
    · exact .inr (by omega)
  · rcases h5 b hb with h6 | h6
    · exact h.v b h6
    · exact .inr (by omega)
theorem RIns.pairs {w : World} {R : Nat} {vr : Value} {rs : List RK} {ch : ByteArray → List Ver} {la fl n : Int} {l : List Pr} {wr : World} {vi : Value} {ri : List RK} (h : RIns w R vr rs ch la fl n l wr vi ri) {vl : Value} {L : List Pr} (hr : RdG PE w vl L) (hap : ∀ b, InB vl b → ¬ RB R vr rs b) : RdG PE wr vl L :=
  hr.chg h.c (fun b hb hf => hap b hb (hf.elim .inl (fun e => .inr (.inl e))))
theorem inst_mem {s : SP} {ks : List ByteArray} (h : Inv s ks) {l : List Pr} (hg : goodP em l = true) (n : Int) (k : ByteArray) : addL s.ch n l k ≠ [] ↔ k ∈ ks ∨ k ∈ freshP s l := by
  have hsl := goodP_srt hg
  rw [h.mem k, mem_fresh]
  by_cases hk : k ∈ l.map (·.1)
  · obtain ⟨p, hp, rfl⟩ := List.mem_map.1 hk
    rw [addL_some hsl hp]
    by_cases he : s.ch p.1 = []
    · simp [he, hk]
    · simp [he]
  · rw [addL_none hk]
    simp [hk]
theorem goodP_fresh {L : List Pr} (hg : goodP em L = true) {i : Nat} (hi : i < L.length) : (L[i]).1 ∉ (L.take i).map (·.1) := by
  intro hm
  obtain ⟨q, hq, e⟩ := List.mem_map.1 hm
  obtain ⟨j, hj, rfl⟩ := List.getElem_of_mem hq
  rw [List.length_take] at hj
  rw [List.getElem_take] at e
  have := List.pairwise_iff_getElem.1 (goodP_srt hg) j i (by simp; omega) (by simpa using hi) (by omega)
  simp only [List.getElem_map] at this
  rw [e, lt_irrefl] at this
  cases this
set_option maxRecDepth 100000 in
set_option maxHeartbeats 4000000 in
theorem vInstall_any {w : World} {R : Nat} {vr : Value} {rs : List RK} {s : SP} (h : RS w R vr rs s) {vl : Value} {L : List Pr} (hr : RdG PE w vl L) (hap : ∀ b, InB vl b → ¬ RB R vr rs b) (hN : rs.length + L.length ≤ 1000000) (hla : s.last ≤ 1000000) (n : Int) :
    Calls Try.prog 29 #[.pointer (some ⟨R, 0, none⟩), .int .i64 n, vl] w fun e w' => e = .returned (.int .i64 (if instOk s n L = true then 0 else 2)) ∧ ∃ vr' rs', RS w' R vr' rs' (instP s n L) ∧ Chg (fun b => b = R ∨ vr.ownBlock = some b) w w' ∧ (∀ b, RB R vr' rs' b → RB R vr rs b ∨ w.heap.size ≤ b) ∧ (∀ b, vr'.ownBlock = some b → vr.ownBlock = some b ∨ w.heap.size ≤ b) ∧ rs'.length ≤ rs.length + L.length := by
  have HS := hide h
  have HR := hide hr
  have HAP := hide hap
  obtain ⟨al, cl, rfl⟩ := hr.slice
  have hn : L.length ≤ 9223372036854775807 := Nat.le_trans hr.cap hr.max
  clear h hr hap
  have hz := Zpair
  obtain ⟨m, HM⟩ : ∃ m, Hid (L.length = m) := ⟨_, rfl⟩
  rw [HM.out] at HR HAP hN hn
  obtain ⟨er, HER⟩ : ∃ x : Int, Hid ((if instOk s n L = true then 0 else 2) = x) := ⟨_, rfl⟩
  obtain ⟨s', HS'⟩ : ∃ x, Hid (instP s n L = x) := ⟨_, rfl⟩
  rw [HER.out, HS'.out]
  have hno : Hid (instOk s n L = false → er = 2 ∧ s' = s) := (show _ → _ from fun hq => ⟨by rw [← HER.out, hq]; rfl, by rw [← HS'.out]; unfold instP; rw [hq]; rfl⟩)
  have CG := hide (vGood_any HR.out)
  obtain ⟨gd_, HG⟩ : ∃ g, Hid (goodP em L = g) := ⟨_, rfl⟩
  rw [HG.out] at CG
  have hb0 : -1 ≤ s.last := by have := HS.out.inv.fl; have := HS.out.inv.fle; omega
  rw [HM.out]
  go_enter Try.func29, Try.ntmps29
  go_wp2_with fail
  refine CG.out.mono ?_
  rintro e w1 ⟨rfl, hb⟩
  have L1 := hide hb
  clear hb CG
  cases gd_ with
  | false =>
    obtain ⟨he, hs⟩ := hno.out (by unfold instOk; rw [HG.out]; rfl)
    go_wp2_with fail
    go_ret
    exact ⟨by rw [he]; rfl, _, rs, by rw [hs]; exact HS.out.kept L1.out, Chg.of_below L1.out, fun b hb => .inl hb, fun b hb => .inl hb, Nat.le_add_right _ _⟩
  | true =>
    have c1 : w1.cell? ⟨R, 1, none⟩ = some (.int .i64 s.last) := (HS.out.d.kept L1.out).cell (j := 1) rfl
    have q1 : IntKind.i64.wrap (s.last + 1) = s.last + 1 := wr64 (by omega) (by omega)
    by_cases hne : n = s.last + 1
    · have q2 : (n != s.last + 1) = false := by simp [hne]
      have hok : Hid (instOk s n L = true) := (show _ = _ by unfold instOk; rw [HG.out, hne]; simp)
      have HNE := hide hne
      clear hne hno
      have I0 : Hid (RIns w R vr rs s.ch s.last s.floor n [] w1 vr rs) := ⟨HS.out.zero.kept L1.out, Chg.of_below L1.out, fun b hb => .inl hb, fun b hb => .inl hb, by simp⟩
      go_wp2_with fail
      go_loopg [23] m (fun g x wr => ∃ (i : Nat) (vi : Value) (ri : List RK), g + i = m ∧ x = .int .i64 (i : Int) ∧ Hid (RIns w R vr rs s.ch s.last s.floor n (L.take i) wr vi ri))
      case atStart => exact ⟨0, vr, rs, by omega, rfl, by rw [List.take_zero]; exact I0⟩
      case round =>
        obtain ⟨i, vi, ri, hgi, rfl, IR⟩ := hrel
        by_cases hlt : i < m
        · have q3 : (i : Int) < (m : Int) := by omega
          have hrd := hide (IR.out.pairs HR.out HAP.out)
          obtain ⟨b, off, rfl, hlb4, hx⟩ := (hrd.out).nth (by omega)
          have hlt' : i < L.length := by rw [HM.out]; exact hlt
          have hr : wr.rangeAt b (off + i * 3) (PC L[i]) := hx i hlt'
          obtain ⟨p, HPp⟩ : ∃ p, Hid (L[i] = p) := ⟨L[i], (show L[i] = L[i] from rfl)⟩
          rw [HPp.out] at hr
          clear hx hlb4
          go_upto_region 6 with (first
            | (refine wpList_load_mid rfl 49 _ rfl b (off + i * 3) rfl (PC p) _ hr Try.underlying49 rfl Try.size49 ?_)
            | (refine wpList_store_new rfl 49 _ _ rfl wr _ (PC p).toArray _ rfl rfl rfl Try.size49 rfl (all_one (PC_one p)) ?_)
            | fail)
          obtain ⟨E, HE⟩ : ∃ E, Hid (wr.heap.size = E) := ⟨_, rfl⟩
          rw [HE.out]
          obtain ⟨w4, hw4⟩ : ∃ x, x = wr.alloc (.cells (PC p).toArray 49 (0, 0)) := ⟨_, rfl⟩
          rw [← hw4]
          have G4 : Hid (Below wr.heap.size wr w4) := (show Below _ _ _ by rw [hw4]; exact (Below.refl _ _).alloc (Nat.le_refl _) _)
          have B4 : Hid (Blk w4 E 49 (PC p)) := (show Blk _ _ _ _ by rw [hw4, ← HE.out]; exact Blk.new wr 49 (PC p))
          clear hw4 hr
          have I4 := hide (IR.out.kept G4.out)
          have hcl := HS.out.inv.len p.1
          have hfr : addL s.ch n (L.take i) p.1 = s.ch p.1 := by
            have := addL_none (n := n) (ch := s.ch) (goodP_fresh HG.out hlt')
            rw [HPp.out] at this
            exact this
          have hpo : Hid (putOk (addL s.ch n (L.take i) p.1) (verOf n p) = true) := (show _ = _ by
            rw [hfr, HNE.out]
            exact HS.out.inv.putOk (goodP_at HG.out p (by rw [← HPp.out]; exact List.getElem_mem hlt')).2.2.2)
          have hll := I4.out.len
          rw [List.length_take, HM.out] at hll
          have CP := hide (vput_any I4.out.r (by omega) p n hpo.out (by rw [hfr]; omega))
          have hrl := (B4.out).range0
          have HT : Hid (L.take (i + 1) = L.take i ++ [p]) := (show _ = _ by rw [List.take_succ_eq_append_getElem hlt', HPp.out])
          clear hfr hcl
          go_wp2_with (first
            | (refine wpList_load_mid rfl 49 _ rfl E 0 rfl (PC p) _ hrl Try.underlying49 rfl Try.size49 ?_)
            | fail)
          refine CP.out.mono ?_
          rintro e w5 ⟨rfl, vj, rj, h1, h2, h3, h4, h5⟩
          have I5 : Hid (RIns w R vr rs s.ch s.last s.floor n (L.take (i + 1)) w5 vj rj) := (show RIns _ _ _ _ _ _ _ _ _ _ _ _ by rw [HT.out]; exact I4.out.step h1 h2 h3 h4 h5)
          clear h1 h2 h3 h4 h5 CP hrl
          go_wp2_with fail
          go_roundg (gk - 1)
          case measure => omega
          case rel => exact ⟨i + 1, vj, rj, by omega, by go_num, I5⟩
        · obtain rfl : i = m := by omega
          have q3 : ¬ (i : Int) < (i : Int) := by omega
          rw [List.take_of_length_le (Nat.le_of_eq HM.out)] at IR
          have cR := IR.out.r.d.cell (j := 1) rfl
          have fR := IR.out.r.d.frozen 1
          have hset := hide (IR.out.r.d.set 1 (.int .i64 n))
          have hcs : Hid (Chg (fun b => b = R) wr (wr.setCell ⟨R, 1, none⟩ (.int .i64 n))) := Chg.setCell (F := fun b => b = R) _ rfl 1 _
          go_wp2_with fail
          go_ret
          have hs : s' = ⟨addL s.ch n L, n, s.floor⟩ := by rw [← HS'.out]; unfold instP; rw [hok.out]; rfl
          have hI := IR.out
          refine ⟨by rw [← HER.out, hok.out]; rfl, vi, ri, ?_, hI.c.trans (hcs.out.mono (fun _ _ e => .inl e)), hI.b, hI.v, HM.out ▸ hI.len⟩
          have hgR : ∀ b, vi.ownBlock = some b → b ≠ R := fun b hb e => by
            obtain ⟨_, _, cur, hc⟩ := hI.r.own.block hb
            have := hI.r.d
            unfold Blk at this
            rw [← e, hc] at this
            cases this
          rw [hs]
          refine ⟨hset.out, hI.r.own.chg hcs.out hgR, ?_, fun x hx => (hI.r.ch x hx).chg hcs.out (fun b hb => (hI.r.ap x hx b hb).1), hI.r.ap⟩
          have := inst_inv HS.out.inv HG.out hI.r.srt (fun k => (hI.r.mem k).trans (inst_mem HS.out.inv HG.out n k))
          rw [HNE.out]
          exact this
    · have q2 : (n != s.last + 1) = true := by simp [hne]
      obtain ⟨he, hs⟩ := hno.out (by unfold instOk; simp [hne])
      go_wp2_with fail
      go_ret
      exact ⟨by rw [he]; rfl, _, rs, by rw [hs]; exact HS.out.kept L1.out, Chg.of_below L1.out, fun b hb => .inl hb, fun b hb => .inl hb, Nat.le_add_right _ _⟩
#print axioms vInstall_any
end Go.Proofs.Ytgaoionnfkbhaaa
