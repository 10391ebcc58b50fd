/-
  Texts that ride together: RfD RfE RfF.
-/
import Derived.Test.YtcicekggeampcaaGreatGE1
import Derived.Test.YtcicekggeampcaaGreatGRa
/-
  The store and the reference's store beside each other.
-/
namespace Go.Proofs.YtcicekggeampcaaGreat
open Go.RowKit
theorem RdV.same {O : Nat → Prop} {w w' : World} {v : Value} {L : List Ver} (h : RdV w v L) (hs : Same O w w') (hO : ∀ b, InB v b → O b) (hc : w'.os = w.os ∧ w'.tape = w.tape ∧ w'.output = w.output ∧ w.heap.size ≤ w'.heap.size) : RdV w' v L :=
  h.chg (F := fun b => ¬ O b) ⟨hc.1, hc.2.1, hc.2.2.1, hc.2.2.2, fun b _ hb => hs b (Classical.not_not.1 hb)⟩ fun b hb hn => hn (hO b hb)
/-- What the store's calls leave, the reference's store keeps. -/
theorem RS.same {w w' : World} {R : Nat} {vr : Value} {rs : List RK} {s : SP} (h : RS w R vr rs s) (hs : Same (SRB R vr rs) w w') (hc : w'.os = w.os ∧ w'.tape = w.tape ∧ w'.output = w.output ∧ w.heap.size ≤ w'.heap.size) : RS w' R vr rs s :=
  ⟨h.d.same hs (.inl rfl), h.own.same hs (fun _ hb => .inr (.inl hb)), h.inv, fun x hx => (h.ch x hx).same hs (fun _ hb => .inr (.inr ⟨x, hx, hb⟩)) hc, h.ap⟩
/-- The reference's blocks hold no chain of the store's. -/
theorem RS.noch {w : World} {R : Nat} {vr : Value} {rs : List RK} {s : SP} (h : RS w R vr rs s) : NoCh w (fun b => b = R ∨ vr.ownBlock = some b) := by
  intro b cur hb hF
  rcases hF with rfl | hF
  · have := h.d
    unfold Blk at this
    rw [hb] at this
    cases this
  · obtain ⟨_, _, cu2, h5⟩ := h.own.block hF
    rw [hb] at h5
    cases h5
end Go.Proofs.YtcicekggeampcaaGreat

/-
  The reference's put: rows that are full, and what is kept inside the call.
-/
namespace Go.Proofs.YtcicekggeampcaaGreat
open Go.RowKit
section
variable {α : Type} {E : Enc α}
/-- Append to a row that is full, of something: a new row. -/
theorem run_append_full {P : Program} (w : World) (base : Nat) (t tx ty e : TypeId) (i : TypeInfo) (z : Value) (bytes : Nat) (ht : P.underlying t = some (.slice e)) (hi : P.info? e = some i) (hz : i.zero = some z)
    (hsize : i.size = E.n) (hby : i.bytes = bytes) (hzs : z.cells.size = E.n) (a : Option Addr) (n : Nat) (L : List α) (hr : RdG E w (.slice a n n) L) (x : Value) (M : List α) (hs : Src P E.n tx x M.length (E.cs M) w) (hm : 0 < M.length)
    (h63 : n + M.length ≤ maxLen) (hbytes : (n + M.length) * bytes ≤ 140737488355328) (hbase : base ≤ w.heap.size) :
    ∃ v' w', (Builtin.append_ #[t, tx] ty #[.slice a n n, x]).run P w = .ok v' w' ∧ OwnG E w' base e v' (L ++ M) ∧ Below w.heap.size w w' ∧ ∀ b, v'.ownBlock = some b → b = w.heap.size := by
  subst hby
  have hln := hr.len
  have hsmall : n + M.length ≤ 9223372036854775807 := by simp only [maxLen] at h63; omega
  have hold : (Builtin.firstCells i.size n (.slice a n n)).run P w.drew = .ok (E.cs L).toArray w.drew := by
    obtain ⟨a', cap', e', h1, h2, h3, h4⟩ := hr
    simp only [Value.slice.injEq] at e'
    obtain ⟨rfl, -, rfl⟩ := e'
    cases a with
    | none =>
      have hn0 := h3 rfl
      have hL : L = [] := List.eq_nil_of_length_eq_zero (by omega)
      subst hL
      exact run_firstCells_none w.drew i.size n n n
    | some b =>
      refine run_firstCells_some w.drew i.size n b n n (E.cs L) (by rw [Enc.cs_length, hsize, hln]) (fun j u hj => ?_)
      have hp : 0 < L.length := by
        have := (List.getElem?_eq_some_iff.1 hj).1
        rw [Enc.cs_length] at this
        exact Nat.pos_of_ne_zero fun h0 => by rw [h0] at this; omega
      obtain ⟨b', off, eb, -, hc⟩ := h4 hp
      cases eb
      rw [Addr.add_mid]
      exact hc j u hj
  have hs' : Src P i.size tx x M.length (E.cs M) w := by rw [hsize]; exact hs
  have hrun := run_append_grow_src (P := P) w t tx ty e i z ht hi hz a n n (E.cs L) hold x M.length (E.cs M) hs' (by omega) (by omega) (growslice_fits (by omega) hbytes)
  have hge := grownCap_ge w (n + M.length) n e
  have hcm : grownCap w (n + M.length) n e ≤ maxLen := grownCap_le_maxLen w (n + M.length) n e h63
  refine ⟨_, _, hrun, ?_, ⟨rfl, rfl, rfl, by simp, fun k hk => Below.heap_alloc w.drew _ k hk⟩, fun b hb => by simpa [Value.ownBlock] using hb.symm⟩
  have hlen : (E.cs L ++ E.cs M).length = (n + M.length) * E.n := by rw [← Enc.cs_append, Enc.cs_length, List.length_append, hln]
  unfold OwnG
  rw [Enc.cs_append, List.length_append, hln]
  refine ⟨hlen, .inr ⟨w.heap.size, _, _, rfl, hbase, heap_alloc_new w.drew _, hge, hcm, ?_, ?_⟩⟩
  · simp only [Array.size_append, List.size_toArray, size_zeroCells, hzs, hlen, ← Nat.add_mul]
    congr 1
    omega
  · simp only [Array.toList_append]
    rw [← hlen]
    exact List.take_left
/-- Append to a row that is full, of what there is. -/
theorem run_append_rd {P : Program} (w : World) (t tx ty e : TypeId) (i : TypeInfo) (z : Value) (bytes : Nat) (ht : P.underlying t = some (.slice e)) (hi : P.info? e = some i) (hz : i.zero = some z)
    (hsize : i.size = E.n) (hby : i.bytes = bytes) (hzs : z.cells.size = E.n) (g : Addr) (n : Nat) (L : List α) (hr : RdG E w (.slice (some g) n n) L) (x : Value) (M : List α) (hs : Src P E.n tx x M.length (E.cs M) w)
    (h63 : n + M.length ≤ maxLen) (hbytes : (n + M.length) * bytes ≤ 140737488355328) :
    ∃ v' w', (Builtin.append_ #[t, tx] ty #[.slice (some g) n n, x]).run P w = .ok v' w' ∧ RdG E w' v' (L ++ M) ∧ Below w.heap.size w w' := by
  by_cases hm : M.length = 0
  · have hM : M = [] := List.eq_nil_of_length_eq_zero hm
    subst hM
    refine ⟨.slice (some g) n n, w, ?_, by rw [List.append_nil]; exact hr, Below.refl _ _⟩
    have h1 := hs.len
    have h2 := hs.cells
    simp only [List.length_nil, Enc.cs_nil] at h1 h2
    rcases hs.kind with ⟨e', hk⟩ | hk <;> simp [Builtin.append_, run_underlying ht, run_underlying hk, sizeOf, typeInfo, hi, h1, h2, hsize, storeCells]
  · obtain ⟨v', w', h1, h2, h3, -⟩ := run_append_full (E := E) (P := P) w 0 t tx ty e i z bytes ht hi hz hsize hby hzs (some g) n L hr x M hs (by omega) h63 hbytes (Nat.zero_le _)
    exact ⟨v', w', h1, h2.rd, h3⟩
/-- The first j, with no room behind. -/
theorem slice_G_cap {P : Program} {t e : TypeId} (ht : P.underlying t = some (.slice e)) (hsz : (P.info? e).map (·.size) = some E.n) (a : Option Addr) (n cap j : Nat) (hj : j ≤ n) (hn : n ≤ cap) :
    (∀ W, (Instr.sliceAt t (.slice a n cap) none (some (.int .i64 (j : Int))) (some (.int .i64 (j : Int)))).run P W = .ok (.slice a j j) W) ∧
      (∀ w (L : List α), RdG E w (.slice a n cap) L → RdG E w (.slice a j j) (L.take j)) := by
  have e2 : (j : Int) ≤ (cap : Int) := by omega
  refine ⟨fun W => ?_, fun w L hr => ?_⟩
  · cases hq : P.info? e with
    | none => simp [hq] at hsz
    | some k =>
      cases a <;> simp [Instr.sliceAt, Instr.slice, run_underlying ht, Instr.sliceBounds, run_sliceBound, e2, sizeOf, typeInfo, hq, Addr.add]
  · obtain ⟨a0, cap0, e, h1, h2, h3, h4⟩ := hr
    simp only [Value.slice.injEq] at e
    obtain ⟨rfl, rfl, rfl⟩ := e
    refine ⟨a, j, by rw [List.length_take]; congr 1; omega, by rw [List.length_take]; omega, by omega, fun h => by have := h3 h; omega, fun hp => ?_⟩
    rw [List.length_take] at hp
    obtain ⟨b, off, rfl, hlt, hcell⟩ := h4 (by omega)
    refine ⟨b, off, rfl, hlt, fun k u hk => hcell k u ?_⟩
    rw [Enc.cs_take] at hk
    have : k < j * E.n := by have := (List.getElem?_eq_some_iff.1 hk).1; rw [List.length_take] at this; omega
    rwa [List.getElem?_take_of_lt this] at hk
end
/-- The reference's keys, while pairs are put. -/
structure RS0 (w : World) (R : Nat) (vr : Value) (rs : List RK) (ch : ByteArray → List Ver) (la fl : Int) : Prop where
  d : Blk w R 34 (SRC vr la fl)
  own : OwnG RKE w 0 121 vr rs
  srt : Srt (rs.map (·.1))
  mem : ∀ k, k ∈ rs.map (·.1) ↔ ch k ≠ []
  ch : ∀ x ∈ rs, RdV w (rkv x) (ch x.1)
  ap : ∀ x ∈ rs, ∀ b, InB (rkv x) b → b ≠ R ∧ vr.ownBlock ≠ some b
theorem RS.zero {w : World} {R : Nat} {vr : Value} {rs : List RK} {s : SP} (h : RS w R vr rs s) : RS0 w R vr rs s.ch s.last s.floor := ⟨h.d, h.own, h.inv.srt, h.inv.mem, h.ch, h.ap⟩
theorem RS0.kept {w w' : World} {R : Nat} {vr : Value} {rs : List RK} {ch : ByteArray → List Ver} {la fl : Int} (h : RS0 w R vr rs ch la fl) (hb : Below w.heap.size w w') : RS0 w' R vr rs ch la fl :=
  ⟨h.d.kept hb, h.own.kept hb, h.srt, h.mem, fun x hx => (h.ch x hx).kept hb, h.ap⟩
/-- What there is when the key stands in its place. -/
structure PMid (w : World) (R : Nat) (vr : Value) (rs : List RK) (ch : ByteArray → List Ver) (la fl : Int) (ky : ByteArray) (i : Nat) (wa : World) (va : Value) (ra : List RK) : Prop where
  d : Blk wa R 34 (SRC va la fl)
  own : OwnG RKE wa 0 121 va ra
  srt : Srt (ra.map (·.1))
  mem : ∀ k, k ∈ ra.map (·.1) ↔ (k = ky ∨ ch k ≠ [])
  hi : i < ra.length
  nm : ra[i].1 = ky
  ch : ∀ x ∈ ra, RdV wa (rkv x) (ch x.1)
  ap : ∀ x ∈ ra, ∀ b, InB (rkv x) b → b ≠ R ∧ va.ownBlock ≠ some b
  chg : Chg (fun b => b = R ∨ vr.ownBlock = some b) w wa
  bl : ∀ b, SRB R va ra b → SRB R vr rs b ∨ w.heap.size ≤ b
  len : ra.length ≤ rs.length + 1
  vb : ∀ b, va.ownBlock = some b → vr.ownBlock = some b ∨ w.heap.size ≤ b
theorem PMid.kept {w : World} {R : Nat} {vr : Value} {rs : List RK} {ch : ByteArray → List Ver} {la fl : Int} {ky : ByteArray} {i : Nat} {wa wb : World} {va : Value} {ra : List RK} (h : PMid w R vr rs ch la fl ky i wa va ra) (hb : Below wa.heap.size wa wb) : PMid w R vr rs ch la fl ky i wb va ra :=
  ⟨h.d.kept hb, h.own.kept hb, h.srt, h.mem, h.hi, h.nm, fun x hx => (h.ch x hx).kept hb, h.ap, h.chg.trans (Chg.of_below hb), h.bl, h.len, h.vb⟩
theorem PMid.row {w : World} {R : Nat} {vr : Value} {rs : List RK} {ch : ByteArray → List Ver} {la fl : Int} {ky : ByteArray} {i : Nat} {wa : World} {va : Value} {ra : List RK} (h : PMid w R vr rs ch la fl ky i wa va ra) : ∃ g n2 c2 ra, PMid w R vr rs ch la fl ky i wa (.slice (some ⟨g, 0, none⟩) n2 c2) ra := by
  obtain ⟨g, c2, cur, rfl, -⟩ := h.own.blk (Nat.lt_of_le_of_lt (Nat.zero_le _) h.hi)
  exact ⟨g, _, c2, _, h⟩
theorem RKE_set (rs : List RK) (i : Nat) (h : i < rs.length) (y : Option Addr × Nat × Nat) : (RKE.cs rs).set (i * 2 + 1) (.slice y.1 y.2.1 y.2.2) = RKE.cs (rs.set i (rs[i].1, y)) := by
  induction rs generalizing i with
  | nil => simp at h
  | cons x rs ih =>
    cases i with
    | zero => rfl
    | succ i =>
      have := ih i (by simpa using h)
      rw [List.set_cons_succ, Enc.cs_cons, Enc.cs_cons, List.getElem_cons_succ, ← this, show (i + 1) * 2 + 1 = (i * 2 + 1) + 1 + 1 by omega]
      rfl
theorem OwnG.setC {w : World} {g n cap : Nat} {e : TypeId} {rs : List RK} (h : OwnG RKE w 0 e (.slice (some ⟨g, 0, none⟩) n cap) rs) {i : Nat} (hi : i < rs.length) (y : Option Addr × Nat × Nat) :
    OwnG RKE (w.setCell ⟨g, i * 2 + 1, none⟩ (.slice y.1 y.2.1 y.2.2)) 0 e (.slice (some ⟨g, 0, none⟩) n cap) (rs.set i (rs[i].1, y)) := by
  have hn := h.rd.len
  obtain ⟨g', cap', cur, hv, hB, hb, ht, hc, h1, h2⟩ := h.blk (by omega)
  simp only [Value.slice.injEq, Option.some.injEq, Addr.mk.injEq, and_true] at hv
  obtain ⟨rfl, -, rfl⟩ := hv
  have := OwnG.of_blk (E := RKE) (B := 0) (L := rs.set i (rs[i].1, y)) (hb.set (i * 2 + 1) (.slice y.1 y.2.1 y.2.2)) (Nat.zero_le _) (by
    rw [List.length_set, List.take_set, ht]
    exact RKE_set rs i hi y) (by rw [List.length_set, hc]) (by rw [List.length_set]; exact h1) h2
  rw [List.length_set, hn] at this
  exact this
theorem OwnV.form {w : World} {B : Nat} {e : TypeId} {v : Value} {L : List Ver} (h : OwnV w B e v L) : ∃ y : Option Addr × Nat × Nat, v = .slice y.1 y.2.1 y.2.2 := by
  obtain ⟨a, c, h⟩ := h.rd.slice
  exact ⟨(a, L.length, c), h⟩
/-- The chain of the key is stored. -/
theorem PMid.done {w : World} {R : Nat} {vr : Value} {rs : List RK} {ch : ByteArray → List Ver} {la fl : Int} {i : Nat} {p : Pr} {m : Int} {wa wb : World} {g n cap : Nat} {ra : List RK} (h : PMid w R vr rs ch la fl p.1 i wa (.slice (some ⟨g, 0, none⟩) n cap) ra) (hb : Below wa.heap.size wa wb)
    {y : Option Addr × Nat × Nat} {e : TypeId} (ho : OwnV wb wa.heap.size e (.slice y.1 y.2.1 y.2.2) (ch p.1 ++ [verOf m p])) :
    ∃ rs', RS0 (wb.setCell ⟨g, i * 2 + 1, none⟩ (.slice y.1 y.2.1 y.2.2)) R (.slice (some ⟨g, 0, none⟩) n cap) rs' (add1 ch m p) la fl ∧ Chg (fun b => b = R ∨ vr.ownBlock = some b) w (wb.setCell ⟨g, i * 2 + 1, none⟩ (.slice y.1 y.2.1 y.2.2)) ∧
      (∀ b, SRB R (.slice (some ⟨g, 0, none⟩) n cap) rs' b → SRB R vr rs b ∨ w.heap.size ≤ b) ∧ rs'.length ≤ rs.length + 1 ∧ (∀ b, (Value.slice (some ⟨g, 0, none⟩) n cap).ownBlock = some b → vr.ownBlock = some b ∨ w.heap.size ≤ b) := by
  have hk := h.kept hb
  have hlt : g < wb.heap.size := (hk.own.block (b := g) rfl).2.1
  have hgR : g ≠ R := fun e' => by
    obtain ⟨_, _, cur, hc⟩ := hk.own.block (b := g) rfl
    have := hk.d
    unfold Blk at this
    rw [← e', hc] at this
    cases this
  have hga : g < wa.heap.size := (h.own.block (b := g) rfl).2.1
  have hyb : ∀ b, InB (.slice y.1 y.2.1 y.2.2) b → wa.heap.size ≤ b := fun b hb' => (ho.block (inB_own hb')).1
  have hc : Chg (fun b => b = g) wb (wb.setCell ⟨g, i * 2 + 1, none⟩ (.slice y.1 y.2.1 y.2.2)) := Chg.setCell (F := fun b => b = g) _ rfl _ _
  have hnames : (ra.set i (ra[i]'h.hi |>.1, y)).map (·.1) = ra.map (·.1) := by
    refine List.ext_getElem (by simp) fun j h1 h2 => ?_
    simp only [List.getElem_map]
    by_cases hj : j = i
    · subst hj; simp
    · rw [List.getElem_set_ne (by omega)]
  have hmem : ∀ x ∈ ra.set i (ra[i]'h.hi |>.1, y), x = (p.1, y) ∨ (x ∈ ra ∧ x.1 ≠ p.1) := by
    intro x hx
    obtain ⟨j, hj, rfl⟩ := List.getElem_of_mem hx
    by_cases hji : j = i
    · subst hji
      left
      rw [List.getElem_set_self, h.nm]
    · right
      have hj' : j < ra.length := by simpa using hj
      rw [List.getElem_set_ne (by omega)]
      refine ⟨List.getElem_mem _, fun e' => hji ?_⟩
      have hs := h.srt
      have hp := List.pairwise_iff_getElem.1 hs
      rcases Nat.lt_or_gt_of_ne hji with hl | hl
      · have := hp j i (by simpa using hj') (by simpa using h.hi) hl
        simp only [List.getElem_map] at this
        rw [e', h.nm, lt_irrefl] at this
        cases this
      · have := hp i j (by simpa using h.hi) (by simpa using hj') hl
        simp only [List.getElem_map] at this
        rw [e', h.nm, lt_irrefl] at this
        cases this
  have hch : ∀ k, add1 ch m p k = if k = p.1 then ch k ++ [verOf m p] else ch k := fun _ => rfl
  refine ⟨ra.set i (ra[i]'h.hi |>.1, y), ⟨hk.d.chg hc (fun e' => hgR e'.symm), hk.own.setC h.hi y, by rw [hnames]; exact h.srt, fun k => ?_, fun x hx => ?_, fun x hx b hb' => ?_⟩, ?_, fun b hb' => ?_, by rw [List.length_set]; exact h.len, h.vb⟩
  · rw [hnames, h.mem k, hch]
    by_cases hkp : k = p.1
    · rw [if_pos hkp]; simp [hkp]
    · rw [if_neg hkp]; simp [hkp]
  · rcases hmem x hx with rfl | ⟨h1, h2⟩
    · rw [hch, if_pos rfl]
      exact ho.rd.chg hc (fun b hb' e' => by have := hyb b hb'; omega)
    · rw [hch, if_neg h2]
      exact (hk.ch x h1).chg hc (fun b hb' e' => (h.ap x h1 b hb').2 (by rw [e']; rfl))
  · rcases hmem x hx with rfl | ⟨h1, h2⟩
    · have := hyb b hb'
      have hR := h.d.lt
      refine ⟨by omega, fun e' => ?_⟩
      have : g = b := by simpa [Value.ownBlock] using e'
      omega
    · exact h.ap x h1 b hb'
  · refine h.chg.then ((Chg.of_below hb).trans (Chg.setCell (F := fun b => b = g) _ rfl _ _)) fun b hlt' e' => ?_
    rcases h.vb g rfl with h1 | h1
    · exact .inr (by rw [e']; exact h1)
    · omega
  · rcases hb' with h1 | h1 | ⟨x, hx, h1⟩
    · exact .inl (.inl h1)
    · rcases h.vb b h1 with h2 | h2
      · exact .inl (.inr (.inl h2))
      · exact .inr h2
    · rcases hmem x hx with rfl | ⟨h2, -⟩
      · have := hyb b h1
        exact .inr (Nat.le_trans h.chg.size this)
      · exact h.bl b (.inr (.inr ⟨x, h2, h1⟩))
/-- The key was there. -/
theorem RS0.mid {w : World} {R : Nat} {vr : Value} {rs : List RK} {ch : ByteArray → List Ver} {la fl : Int} (h : RS0 w R vr rs ch la fl) {i : Nat} (hi : i < rs.length) {ky : ByteArray} (hk : rs[i].1 = ky) {wa : World} (hb : Below w.heap.size w wa) : PMid w R vr rs ch la fl ky i wa vr rs :=
  ⟨h.d.kept hb, h.own.kept hb, h.srt, fun k => by
    rw [h.mem k]
    refine ⟨.inr, fun hq => hq.elim (fun e => ?_) id⟩
    rw [← h.mem k, e, ← hk]
    exact List.mem_map.2 ⟨_, List.getElem_mem hi, rfl⟩, hi, hk, fun x hx => (h.ch x hx).kept hb, h.ap, Chg.of_below hb, fun _ hb' => .inl hb', by omega, fun _ hb' => .inl hb'⟩
theorem srt_insert {ks : List ByteArray} {k : ByteArray} (h : Srt ks) (hn : k ∉ ks) : Srt (ks.take (lb ks k) ++ ([k] ++ ks.drop (lb ks k))) := by
  unfold Srt
  rw [List.pairwise_append]
  refine ⟨srt_take h _, ?_, fun a ha b hb => ?_⟩
  · rw [List.pairwise_append]
    refine ⟨List.pairwise_singleton _ _, srt_drop h _, fun a ha b hb => ?_⟩
    rw [List.mem_singleton] at ha
    subst ha
    have h1 := lb_drop h b hb
    cases hq : lt a b with
    | true => rfl
    | false => exact absurd (lt_total hq h1 ▸ List.mem_of_mem_drop hb) hn
  · have h1 := lb_take h a ha
    rcases List.mem_append.1 hb with hb | hb
    · rw [List.mem_singleton] at hb
      subst hb
      exact h1
    · exact lt_of_not h1 (lb_drop h b hb)
/-- The key is new: the row is new. -/
theorem RS0.ins {w : World} {R : Nat} {vr : Value} {rs : List RK} {ch : ByteArray → List Ver} {la fl : Int} (h : RS0 w R vr rs ch la fl) {ky : ByteArray} (hn : ky ∉ rs.map (·.1)) {i : Nat} (hi : lb (rs.map (·.1)) ky = i) {wa : World} (hb : Below w.heap.size w wa)
    {va : Value} (ho : OwnG RKE wa w.heap.size 121 va (rs.take i ++ ([(ky, none, 0, 0)] ++ rs.drop i))) : PMid w R vr rs ch la fl ky i (wa.setCell ⟨R, 0, none⟩ va) va (rs.take i ++ ([(ky, none, 0, 0)] ++ rs.drop i)) := by
  have hR := h.d.lt
  have hle : i ≤ rs.length := by have := lb_le (rs.map (·.1)) ky; rw [List.length_map] at this; omega
  have hc : Chg (fun b => b = R) wa (wa.setCell ⟨R, 0, none⟩ va) := Chg.setCell (F := fun b => b = R) _ rfl _ _
  have hck : ch ky = [] := by
    cases hq : ch ky with
    | nil => rfl
    | cons a b => exact absurd ((h.mem ky).2 (by rw [hq]; simp)) hn
  have hvb : ∀ b, va.ownBlock = some b → w.heap.size ≤ b := fun b hb' => (ho.block hb').1
  have hnb : ∀ b, ¬ InB (rkv (ky, none, 0, 0)) b := by
    rintro b ⟨off, n, cap, e', _⟩
    simp [rkv] at e'
  have hold : ∀ x ∈ rs.take i ++ ([(ky, none, 0, 0)] ++ rs.drop i), x = (ky, none, 0, 0) ∨ x ∈ rs := by
    intro x hx
    rcases List.mem_append.1 hx with hx | hx
    · exact .inr (List.mem_of_mem_take hx)
    · rcases List.mem_append.1 hx with hx | hx
      · exact .inl (by simpa using hx)
      · exact .inr (List.mem_of_mem_drop hx)
  have hbl : ∀ x ∈ rs, ∀ b, InB (rkv x) b → b < w.heap.size := by
    intro x hx b hb'
    obtain ⟨off, n, cap, e', hp⟩ := hb'
    have hr := h.ch x hx
    rw [e'] at hr
    obtain ⟨b', off', e2, h2, -⟩ := hr.nth hp
    cases e2
    exact h2
  have hmap : (rs.take i ++ ([((ky, none, 0, 0) : RK)] ++ rs.drop i)).map (fun x : RK => x.1) = (rs.map (·.1)).take i ++ ([ky] ++ (rs.map (·.1)).drop i) := by simp [List.map_take, List.map_drop]
  refine ⟨((h.d.kept hb).set 0 va), ho.mono (Nat.zero_le _) |>.chg hc (fun b hb' e' => by have := hvb b hb'; omega), by rw [hmap, ← hi]; exact srt_insert h.srt hn, fun k => ?_, by simp; omega, ?_, fun x hx => ?_, fun x hx b hb' => ?_, ?_, fun b hb' => ?_, by simp; omega, fun b hb' => .inr (hvb b hb')⟩
  · rw [hmap, ← h.mem k]
    simp only [List.mem_append, List.mem_singleton]
    constructor
    · rintro (h1 | h1 | h1)
      · exact .inr (List.mem_of_mem_take h1)
      · exact .inl h1
      · exact .inr (List.mem_of_mem_drop h1)
    · rintro (h1 | h1)
      · exact .inr (.inl h1)
      · rw [← List.take_append_drop i (rs.map (·.1))] at h1
        rcases List.mem_append.1 h1 with h1 | h1
        · exact .inl h1
        · exact .inr (.inr h1)
  · have : (rs.take i).length = i := by rw [List.length_take]; omega
    rw [List.getElem_append_right (by omega)]
    simp [this]
  · rcases hold x hx with rfl | hx
    · rw [hck]
      exact RdV_nil _
    · exact ((h.ch x hx).kept hb).chg hc (fun b hb' e' => (h.ap x hx b hb').1 e')
  · rcases hold x hx with rfl | hx
    · exact absurd hb' (hnb b)
    · exact ⟨(h.ap x hx b hb').1, fun e' => by have := hvb b e'; have := hbl x hx b hb'; omega⟩
  · exact (Chg.of_below hb).trans (hc.mono (fun _ _ e' => .inl e'))
  · rcases hb' with h1 | h1 | ⟨x, hx, h1⟩
    · exact .inl (.inl h1)
    · exact .inr (hvb b h1)
    · rcases hold x hx with rfl | hx
      · exact absurd h1 (hnb b)
      · exact .inl (.inr (.inr ⟨x, hx, h1⟩))
end Go.Proofs.YtcicekggeampcaaGreat

/-
  The reference's put: what the call does.
-/
namespace Go.Proofs.YtcicekggeampcaaGreat
open Go.RowKit
set_option maxRecDepth 100000 in
set_option maxHeartbeats 4000000 in
theorem vput_any {w : World} {R : Nat} {vr : Value} {rs : List RK} {ch : ByteArray → List Ver} {la fl : Int} (h : RS0 w R vr rs ch la fl) (hN : rs.length ≤ 1000000) (p : Pr) (m : Int) (hp : putOk (ch p.1) (verOf m p) = true) (hl : (ch p.1).length ≤ 1000000) :
    Calls Tryz.prog 64 #[.pointer (some ⟨R, 0, none⟩), .agg (PC p).toArray, .int .i64 m] w fun e w' => e = .returned (.tuple #[]) ∧ ∃ vr' rs', RS0 w' R vr' rs' (add1 ch m p) la fl ∧ Chg (fun b => b = R ∨ vr.ownBlock = some b) w w' ∧ (∀ b, SRB R vr' rs' b → SRB R vr rs b ∨ w.heap.size ≤ b) ∧ rs'.length ≤ rs.length + 1 ∧ (∀ b, vr'.ownBlock = some b → vr.ownBlock = some b ∨ w.heap.size ≤ b) := by
  have HS := hide h
  obtain ⟨a, cp, rfl⟩ := h.own.rd.slice
  have hcp : rs.length ≤ cp := h.own.rd.cap
  clear h
  have HP := hide hp
  clear hp
  obtain ⟨n_, HN⟩ : ∃ n, Hid (rs.length = n) := ⟨_, rfl⟩
  rw [HN.out] at HS hN hcp
  have L1 := hide ((Below.refl w.heap.size w).alloc (Nat.le_refl _) (.cells (PC p).toArray 51 (0, 0)))
  have B1 := hide (Blk.new w 51 (PC p))
  obtain ⟨i0, HI0⟩ : ∃ n, Hid (lb (rs.map (·.1)) p.1 = n) := ⟨_, rfl⟩
  have hi0 : i0 ≤ n_ := by have := lb_le (rs.map (·.1)) p.1; rw [List.length_map, HN.out, HI0.out] at this; exact this
  have HLT : Hid (∀ i (hi : i < rs.length), lt rs[i].1 p.1 = decide (i < i0)) := (show ∀ i (hi : i < rs.length), _ from fun i hi => by
    have := lb_at HS.out.srt (t := p.1) (i := i) (by simpa using hi)
    rw [HI0.out, List.getElem_map] at this
    exact this)
  rw [HN.out]
  go_enter Tryz.func64, Tryz.ntmps64
  go_wp2_with fail
  obtain ⟨E, HE⟩ : ∃ E, Hid (w.heap.size = E) := ⟨_, rfl⟩
  obtain ⟨w1, hw1⟩ : ∃ x, x = w.alloc (.cells (PC p).toArray 51 (0, 0)) := ⟨_, rfl⟩
  rw [← hw1] at L1 B1 ⊢
  rw [HE.out] at B1 ⊢
  clear hw1
  go_loopg [6] i0 (fun g x wr => ∃ (i : Nat), g + i = i0 ∧ x = .int .i64 (i : Int) ∧ Hid (Below w.heap.size w wr) ∧ Hid (Blk wr E 51 (PC p)))
  case atStart => exact ⟨0, by omega, rfl, L1, B1⟩
  case round =>
    obtain ⟨i, hgi, rfl, LR, BR⟩ := hrel
    have k0 := cell_regrown ((HS.out.d.kept LR.out).cell (j := 0) rfl)
    have kE := cell_regrown (BR.out.cell (j := 0) rfl)
    obtain ⟨ky, va, dd⟩ := p
    simp only at k0 kE HLT HI0
    by_cases hlt : i < n_
    · have q2 : decide ((i : Int) < (n_ : Int)) = true := by simp; omega
      have q2' : (i : Int) < (n_ : Int) := by omega
      have hlt' : i < rs.length := by rw [HN.out]; exact hlt
      obtain ⟨b, off, rfl, hlb4, hx⟩ := ((HS.out.own.rd.kept LR.out)).nth (by omega)
      have hr : wr.rangeAt b (off + i * 2) (RKC rs[i]) := hx i hlt'
      obtain ⟨x, HX⟩ : ∃ x, Hid (rs[i] = x) := ⟨rs[i], (show rs[i] = rs[i] from rfl)⟩
      rw [HX.out] at hr
      have kn := cell_regrown (show wr.cell? ⟨b, off + i * 2, none⟩ = some (.string x.1) from hr 0 _ rfl)
      have q3 := HLT.out i hlt'
      rw [HX.out] at q3
      have hkn : wr.cell? ⟨b, off + i * 2, none⟩ = some (.string x.1) := hr 0 _ rfl
      have hlb := hlb4
      clear hx hr hlb4
      by_cases hi : i < i0
      · have q4 : Op.bytesLess x.1.toList ky.toList = true := by show lt x.1 ky = true; rw [q3]; simpa using hi
        clear q3
        go_upto_region 2 with fail
        refine wp_region_quiet_below Tryz.mixed (by kernel_rfl) ?_
        repeat (go_big_quiet_step (fail))
        refine wpQuiet_nil ?_
        intro w5 hw5
        have D5 : Hid (Below wr.heap.size wr w5) := (show Below _ _ _ by obtain ⟨⟨dq, osq⟩, rfl⟩ := hw5; exact below_regrown wr dq osq)
        have L5 : Hid (Below w.heap.size w w5) := LR.out.trans (D5.out.mono LR.out.size)
        have B5 := hide (BR.out.kept D5.out)
        clear hw5 k0 kE kn
        go_wp2_with fail
        go_roundg (gk - 1)
        case measure => omega
        case rel => exact ⟨i + 1, by omega, by go_num, L5, B5⟩
      · obtain rfl : i = i0 := by omega
        have q4 : Op.bytesLess x.1.toList ky.toList = false := by show lt x.1 ky = false; rw [q3]; simp
        clear q3
        go_upto_region 2 with fail
        refine wp_region_quiet_below Tryz.mixed (by kernel_rfl) ?_
        repeat (go_big_quiet_step (fail))
        refine wpQuiet_nil ?_
        intro w5 hw5
        have D5 : Hid (Below wr.heap.size wr w5) := (show Below _ _ _ by obtain ⟨⟨dq, osq⟩, rfl⟩ := hw5; exact below_regrown wr dq osq)
        have L5 : Hid (Below w.heap.size w w5) := LR.out.trans (D5.out.mono LR.out.size)
        have B5 := hide (BR.out.kept D5.out)
        have k0' := cell_regrown ((HS.out.d.kept L5.out).cell (j := 0) rfl)
        have kE' := cell_regrown (B5.out.cell (j := 0) rfl)
        have kn' := cell_regrown (show w5.cell? ⟨b, off + i * 2, none⟩ = some (.string x.1) from (D5.out.cell (p := ⟨b, off + i * 2, none⟩) hlb).trans hkn)
        simp only at k0' kE'
        clear hw5 k0 kE kn hkn
        have q5 : decide ((i : Int) = (n_ : Int)) = false := by simp; omega
        have q5' : ((i : Int) == (n_ : Int)) = false := by simp; omega
        go_upto_region 4 with fail
        cases h6 : x.1.toList == ky.toList with
        | true =>
          have HK : Hid ((rs[i]'hlt').1 = ky) := (show _ = _ by rw [HX.out]; exact ba_inj.1 (by simpa using h6))
          refine wp_region_quiet_below Tryz.mixed (by kernel_rfl) ?_
          repeat (go_big_quiet_step (fail))
          refine wpQuiet_nil ?_
          intro w6 hw6
          have D6 : Hid (Below w5.heap.size w5 w6) := (show Below _ _ _ by obtain ⟨⟨dq, osq⟩, rfl⟩ := hw6; exact below_regrown w5 dq osq)
          have L6 : Hid (Below w.heap.size w w6) := L5.out.trans (D6.out.mono L5.out.size)
          have B6 := hide (B5.out.kept D6.out)
          clear hw6 k0' kE' kn'
          have HM : Hid (PMid w R (.slice (some ⟨b, off, none⟩) n_ cp) rs ch la fl ky i w6 (.slice (some ⟨b, off, none⟩) n_ cp) rs) := HS.out.mid hlt' HK.out L6.out
          obtain ⟨g, n2, c2, ra, HM⟩ : ∃ g n2 c2 ra, Hid (PMid w R (.slice (some ⟨b, off, none⟩) n_ cp) rs ch la fl ky i w6 (.slice (some ⟨g, 0, none⟩) n2 c2) ra) := HM.out.row
          have hn2 : i < n2 := by have := HM.out.hi; rwa [HM.out.own.rd.len] at this
          have hgl : g < w6.heap.size := (HM.out.own.block (b := g) rfl).2.1
          obtain ⟨u, HU⟩ : ∃ u, Hid (ra[i]'HM.out.hi = u) := ⟨_, rfl⟩
          have hcu : w6.cell? ⟨g, i * 2 + 1, none⟩ = some (.slice u.2.1 u.2.2.1 u.2.2.2) := by
            obtain ⟨b_, off_, hv, -, hx⟩ := HM.out.own.rd.nth (by omega)
            cases hv
            have := hx i HM.out.hi 1 (.slice u.2.1 u.2.2.1 u.2.2.2) (by rw [HU.out]; rfl)
            rw [Nat.zero_add] at this
            exact this
          have HUC : Hid (RdV w6 (.slice u.2.1 u.2.2.1 u.2.2.2) (ch ky)) := (show RdV _ _ _ by
            have := HM.out.ch u (by rw [← HU.out]; exact List.getElem_mem _)
            rw [← HU.out, HM.out.nm, HU.out] at this
            exact this)
          have hbv : ∀ W, (Instr.build 140 #[(0, .int .i64 m), (1, .string va), (2, .bool dd)]).run Tryz.prog W = .ok (.agg (VC (m, va, dd)).toArray) W := fun W => by kernel_rfl
          go_wp2_with fail
          refine wp_region_inv Tryz.mixed (KS (fun i_ => match i_ with | 0 | 1 | 2 => .val (.pointer (some ⟨R, 0, none⟩)) | 3 => .val (.slice (some ⟨g, 0, none⟩) n2 c2) | 4 => .val (.int .i64 (i : Int)) | 5 => .val (.pointer (some ⟨g, i * 2, none⟩)) | 6 => .val (.pointer (some ⟨g, i * 2 + 1, none⟩)) | 7 => .val (.slice u.2.1 u.2.2.1 u.2.2.2) | 8 => .val (.int .i64 m) | 9 => .val (.pointer (some ⟨E, 1, none⟩)) | 10 => .val (.string va) | 11 => .val (.pointer (some ⟨E, 2, none⟩)) | 12 => .val (.bool dd) | 13 => .val (.agg (VC (m, va, dd)).toArray) | 14 | 15 => .of (fun W x => ∃ y : Option Addr × Nat × Nat, x = .tuple #[.slice y.1 y.2.1 y.2.2, .bool true] ∧ OwnV W w6.heap.size 140 (.slice y.1 y.2.1 y.2.2) (ch ky ++ [verOf m (ky, va, dd)])) (fun _ _ _ hg h => by obtain ⟨y, h1, h2⟩ := h; exact ⟨y, h1, h2.kept hg⟩) | 16 | 18 => .of (fun W x => ∃ y : Option Addr × Nat × Nat, x = .slice y.1 y.2.1 y.2.2 ∧ OwnV W w6.heap.size 140 (.slice y.1 y.2.1 y.2.2) (ch ky ++ [verOf m (ky, va, dd)])) (fun _ _ _ hg h => by obtain ⟨y, h1, h2⟩ := h; exact ⟨y, h1, h2.kept hg⟩) | 17 | 19 => .val (.bool true) | _ => .free)) 99 rfl (by decide +kernel) (KS_mono _) ?_ ?_
          · refine AllFrom.cons (fun a' w' hg hk hd => ?_) (AllFrom.cons (fun a' w' hg hk hd => ?_) (AllFrom.cons (fun a' w' hg hk hd => ?_) (AllFrom.cons (fun a' w' hg hk hd => ?_) (AllFrom.cons (fun a' w' hg hk hd => ?_) (AllFrom.cons (fun a' w' hg hk hd => ?_) (AllFrom.cons (fun a' w' hg hk hd => ?_) (AllFrom.cons (fun a' w' hg hk hd => ?_) (AllFrom.cons (fun a' w' hg hk hd => ?_) (AllFrom.cons (fun a' w' hg hk hd => ?_) (AllFrom.cons (fun a' w' hg hk hd => ?_) (AllFrom.cons (fun a' w' hg hk hd => ?_) (AllFrom.cons (fun a' w' hg hk hd => ?_) (AllFrom.cons (fun a' w' hg hk hd => ?_) (AllFrom.cons (fun a' w' hg hk hd => ?_) (AllFrom.cons (fun a' w' hg hk hd => ?_) (AllFrom.cons (fun a' w' hg hk hd => ?_) (AllFrom.cons (fun a' w' hg hk hd => ?_) (AllFrom.cons (fun a' w' hg hk hd => ?_) (AllFrom.cons (fun a' w' hg hk hd => ?_) AllFrom.nil)))))))))))))))))))
            · -- 0: Op.move (Operand.tmp 0)
              intro Q
              have e0 : a'.eval (.tmp 0) = .pointer (some ⟨R, 0, none⟩) := hk.at 0 (by decide +kernel)
              exact wp_value _ (by simp only [execOp, e0]; rfl) (KS_mkv rfl rfl)
            · -- 1: Op.nilCheck (Operand.tmp 74)
              intro Q
              have e74 : a'.eval (.tmp 74) = .pointer (some ⟨R, 0, none⟩) := KS_val (Deps.val hd 0 74 (by decide +kernel)) rfl
              clear hd hk
              exact wp_value (.pointer (some ⟨R, 0, none⟩)) (by simp only [execOp, e74]; go_simp) (KS_mkv rfl rfl)
            · -- 2: Op.fieldAddr 30 (Operand.tmp 75) 0
              intro Q
              have e75 : a'.eval (.tmp 75) = .pointer (some ⟨R, 0, none⟩) := KS_val (Deps.val hd 1 75 (by decide +kernel)) rfl
              clear hd hk
              exact wp_value (.pointer (some ⟨R, 0, none⟩)) (by simp only [execOp, e75]; go_simp) (KS_mkv rfl rfl)
            · -- 3: Op.load 28 (Operand.tmp 76)
              intro Q
              have e76 : a'.eval (.tmp 76) = .pointer (some ⟨R, 0, none⟩) := KS_val (Deps.val hd 2 76 (by decide +kernel)) rfl
              have c_ : w'.cell? ⟨R, 0, none⟩ = some (.slice (some ⟨g, 0, none⟩) n2 c2) := (HM.out.d.kept hg).cell (j := 0) rfl
              clear hd hk
              exact wp_value (.slice (some ⟨g, 0, none⟩) n2 c2) (by simp only [execOp, e76]; go_simp) (KS_mkv rfl rfl)
            · -- 4: Op.move (Operand.tmp 6)
              intro Q
              have e6 : a'.eval (.tmp 6) = .int .i64 (i : Int) := hk.at 6 (by decide +kernel)
              exact wp_value _ (by simp only [execOp, e6]; rfl) (KS_mkv rfl rfl)
            · -- 5: Op.indexAddr 28 (Operand.tmp 77) (Operand.tmp 78)
              intro Q
              have e77 : a'.eval (.tmp 77) = .slice (some ⟨g, 0, none⟩) n2 c2 := KS_val (Deps.val hd 3 77 (by decide +kernel)) rfl
              have e78 : a'.eval (.tmp 78) = .int .i64 (i : Int) := KS_val (Deps.val hd 4 78 (by decide +kernel)) rfl
              clear hd hk
              exact wp_value (.pointer (some ⟨g, i * 2, none⟩)) (by simp only [execOp, e77, e78]; go_simp) (KS_mkv rfl rfl)
            · -- 6: Op.fieldAddr 69 (Operand.tmp 79) 1
              intro Q
              have e79 : a'.eval (.tmp 79) = .pointer (some ⟨g, i * 2, none⟩) := KS_val (Deps.val hd 5 79 (by decide +kernel)) rfl
              clear hd hk
              exact wp_value (.pointer (some ⟨g, i * 2 + 1, none⟩)) (by simp only [execOp, e79]; go_simp) (KS_mkv rfl rfl)
            · -- 7: Op.load 67 (Operand.tmp 80)
              intro Q
              have e80 : a'.eval (.tmp 80) = .pointer (some ⟨g, i * 2 + 1, none⟩) := KS_val (Deps.val hd 6 80 (by decide +kernel)) rfl
              have c_ : w'.cell? ⟨g, i * 2 + 1, none⟩ = some (.slice u.2.1 u.2.2.1 u.2.2.2) := (Below.cell hg (p := ⟨g, i * 2 + 1, none⟩) hgl).trans hcu
              clear hd hk
              exact wp_value (.slice u.2.1 u.2.2.1 u.2.2.2) (by simp only [execOp, e80]; go_simp) (KS_mkv rfl rfl)
            · -- 8: Op.move (Operand.tmp 2)
              intro Q
              have e2 : a'.eval (.tmp 2) = .int .i64 m := hk.at 2 (by decide +kernel)
              exact wp_value _ (by simp only [execOp, e2]; rfl) (KS_mkv rfl rfl)
            · -- 9: Op.fieldAddr 49 (Operand.tmp 4) 1
              intro Q
              have e4 : a'.eval (.tmp 4) = .pointer (some ⟨E, 0, none⟩) := hk.at 4 (by decide +kernel)
              clear hd hk
              exact wp_value (.pointer (some ⟨E, 1, none⟩)) (by simp only [execOp, e4]; go_simp) (KS_mkv rfl rfl)
            · -- 10: Op.load 9 (Operand.tmp 83)
              intro Q
              have e83 : a'.eval (.tmp 83) = .pointer (some ⟨E, 1, none⟩) := KS_val (Deps.val hd 9 83 (by decide +kernel)) rfl
              have c_ : w'.cell? ⟨E, 1, none⟩ = some (.string va) := (B6.out.kept hg).cell (j := 1) rfl
              clear hd hk
              exact wp_value (.string va) (by simp only [execOp, e83]; go_simp) (KS_mkv rfl rfl)
            · -- 11: Op.fieldAddr 49 (Operand.tmp 4) 2
              intro Q
              have e4 : a'.eval (.tmp 4) = .pointer (some ⟨E, 0, none⟩) := hk.at 4 (by decide +kernel)
              clear hd hk
              exact wp_value (.pointer (some ⟨E, 2, none⟩)) (by simp only [execOp, e4]; go_simp) (KS_mkv rfl rfl)
            · -- 12: Op.load 4 (Operand.tmp 85)
              intro Q
              have e85 : a'.eval (.tmp 85) = .pointer (some ⟨E, 2, none⟩) := KS_val (Deps.val hd 11 85 (by decide +kernel)) rfl
              have c_ : w'.cell? ⟨E, 2, none⟩ = some (.bool dd) := (B6.out.kept hg).cell (j := 2) rfl
              clear hd hk
              exact wp_value (.bool dd) (by simp only [execOp, e85]; go_simp) (KS_mkv rfl rfl)
            · -- 13: Op.build 87 #[(0, Operand.tmp 82), (1, Operand.tmp 84), (2, 
              intro Q
              have e82 : a'.eval (.tmp 82) = .int .i64 m := KS_val (Deps.val hd 8 82 (by decide +kernel)) rfl
              have e84 : a'.eval (.tmp 84) = .string va := KS_val (Deps.val hd 10 84 (by decide +kernel)) rfl
              have e86 : a'.eval (.tmp 86) = .bool dd := KS_val (Deps.val hd 12 86 (by decide +kernel)) rfl
              clear hd hk
              exact wp_value (.agg (VC (m, va, dd)).toArray) (by simp only [execOp, List.map_toArray, List.map_cons, List.map_nil, e82, e84, e86, hbv, Sem.run_bind, Sem.run_pure, Result.andThen_ok]) (KS_mkv rfl rfl)
            · -- 14: Op.call ( callee := Callee.value (Operand.func 59), args := 
              intro Q
              have e81 : a'.eval (.tmp 81) = .slice u.2.1 u.2.2.1 u.2.2.2 := KS_val (Deps.val hd 7 81 (by decide +kernel)) rfl
              have e87 : a'.eval (.tmp 87) = .agg (VC (m, va, dd)).toArray := KS_val (Deps.val hd 13 87 (by decide +kernel)) rfl
              refine wp_call 95 _ (run_enter 95 _ _ rfl (by kernel_rfl)) ?_
              simp only [List.map_toArray, List.map_nil, List.map_cons, e81, e87]
              refine (kput_own (HUC.out.kept hg) (by omega) (m, va, dd) HP.out).mono ?_
              rintro e_ w_ ⟨v_, rfl, ho_, hb_⟩
              rw [show putP (ch ky) (m, va, dd) = ch ky ++ [verOf m (ky, va, dd)] from putP_ok HP.out] at ho_
              obtain ⟨y, rfl⟩ := ho_.form
              exact ⟨_, rfl, KS_mko rfl ⟨y, rfl, ho_.mono hg.size⟩, hb_⟩
            · -- 15: Op.move (Operand.tmp 88)
              intro Q
              have r88 := KS_of (Deps.val hd 14 88 (by decide +kernel)) rfl
              exact wp_value (a'.eval (.tmp 88)) (by simp only [execOp]; rfl) (KS_mko rfl r88)
            · -- 16: Op.extract (Operand.tmp 73) 0
              intro Q
              have r73 := KS_of (Deps.val hd 15 73 (by decide +kernel)) rfl
              obtain ⟨y, e73, o73⟩ := r73
              exact wp_value (.slice y.1 y.2.1 y.2.2) (by simp only [execOp, e73]; rfl) (KS_mko rfl ⟨y, rfl, o73⟩)
            · -- 17: Op.extract (Operand.tmp 73) 1
              intro Q
              have r73 := KS_of (Deps.val hd 15 73 (by decide +kernel)) rfl
              obtain ⟨y, e73, o73⟩ := r73
              exact wp_value (.bool true) (by simp only [execOp, e73]; rfl) (KS_mkv rfl rfl)
            · -- 18: Op.assign (Operand.tmp 89)
              intro Q
              have r89 := KS_of (Deps.val hd 16 89 (by decide +kernel)) rfl
              exact wp_value (a'.eval (.tmp 89)) (by simp only [execOp]; rfl) (KS_mko rfl r89)
            · -- 19: Op.assign (Operand.tmp 90)
              intro Q
              have e90 : a'.eval (.tmp 90) = .bool true := KS_val (Deps.val hd 17 90 (by decide +kernel)) rfl
              exact wp_value _ (by simp only [execOp, e90]; rfl) (KS_mkv rfl rfl)
          · intro a' wb hsz hdf hk hall hg
            have e74 : a'.eval (.tmp 74) = .pointer (some ⟨R, 0, none⟩) := KS_val (hall 0 _ 74 rfl rfl) rfl
            have e75 : a'.eval (.tmp 75) = .pointer (some ⟨R, 0, none⟩) := KS_val (hall 1 _ 75 rfl rfl) rfl
            have e76 : a'.eval (.tmp 76) = .pointer (some ⟨R, 0, none⟩) := KS_val (hall 2 _ 76 rfl rfl) rfl
            have e77 : a'.eval (.tmp 77) = .slice (some ⟨g, 0, none⟩) n2 c2 := KS_val (hall 3 _ 77 rfl rfl) rfl
            have e78 : a'.eval (.tmp 78) = .int .i64 (i : Int) := KS_val (hall 4 _ 78 rfl rfl) rfl
            have e79 : a'.eval (.tmp 79) = .pointer (some ⟨g, i * 2, none⟩) := KS_val (hall 5 _ 79 rfl rfl) rfl
            have e80 : a'.eval (.tmp 80) = .pointer (some ⟨g, i * 2 + 1, none⟩) := KS_val (hall 6 _ 80 rfl rfl) rfl
            have e81 : a'.eval (.tmp 81) = .slice u.2.1 u.2.2.1 u.2.2.2 := KS_val (hall 7 _ 81 rfl rfl) rfl
            have e82 : a'.eval (.tmp 82) = .int .i64 m := KS_val (hall 8 _ 82 rfl rfl) rfl
            have e83 : a'.eval (.tmp 83) = .pointer (some ⟨E, 1, none⟩) := KS_val (hall 9 _ 83 rfl rfl) rfl
            have e84 : a'.eval (.tmp 84) = .string va := KS_val (hall 10 _ 84 rfl rfl) rfl
            have e85 : a'.eval (.tmp 85) = .pointer (some ⟨E, 2, none⟩) := KS_val (hall 11 _ 85 rfl rfl) rfl
            have e86 : a'.eval (.tmp 86) = .bool dd := KS_val (hall 12 _ 86 rfl rfl) rfl
            have e87 : a'.eval (.tmp 87) = .agg (VC (m, va, dd)).toArray := KS_val (hall 13 _ 87 rfl rfl) rfl
            have r88 := KS_of (hall 14 _ 88 rfl rfl) rfl
            obtain ⟨x88, e88⟩ : ∃ v, a'.eval (.tmp 88) = v := ⟨_, rfl⟩
            rw [e88] at r88
            have r73 := KS_of (hall 15 _ 73 rfl rfl) rfl
            obtain ⟨x73, e73⟩ : ∃ v, a'.eval (.tmp 73) = v := ⟨_, rfl⟩
            rw [e73] at r73
            have r89 := KS_of (hall 16 _ 89 rfl rfl) rfl
            obtain ⟨x89, e89⟩ : ∃ v, a'.eval (.tmp 89) = v := ⟨_, rfl⟩
            rw [e89] at r89
            have e90 : a'.eval (.tmp 90) = .bool true := KS_val (hall 17 _ 90 rfl rfl) rfl
            have r7 := KS_of (hall 18 _ 7 rfl rfl) rfl
            obtain ⟨x7, e7⟩ : ∃ v, a'.eval (.tmp 7) = v := ⟨_, rfl⟩
            rw [e7] at r7
            have e8 : a'.eval (.tmp 8) = .bool true := KS_val (hall 19 _ 8 rfl rfl) rfl
            have ha := act_puts 99 rfl hsz hdf hk [74, 75, 76, 77, 78, 79, 80, 81, 82, 83, 84, 85, 86, 87, 88, 73, 89, 90, 7, 8] (by decide +kernel)
            simp only [puts, List.foldl_cons, List.foldl_nil, e74, e75, e76, e77, e78, e79, e80, e81, e82, e83, e84, e85, e86, e87, e88, e73, e89, e90, e7, e8] at ha
            simp only [Act.put, List.setIfInBounds_toArray, List.set_cons_succ, List.set_cons_zero] at ha
            clear hall hk hsz hdf r88 r73 r89 e74 e75 e76 e77 e78 e79 e80 e81 e82 e83 e84 e85 e86 e87 e88 e73 e89 e90 e7 e8
            subst ha
            obtain ⟨y, rfl, o7⟩ := r7
            have HO := hide o7
            have GB := hide hg
            clear o7 hg hbv
            have HD := hide (HM.out.done (p := (ky, va, dd)) (m := m) (y := y) GB.out HO.out)
            have hcb : wb.cell? ⟨g, i * 2 + 1, none⟩ = some (.slice u.2.1 u.2.2.1 u.2.2.2) := (Below.cell GB.out (p := ⟨g, i * 2 + 1, none⟩) hgl).trans hcu
            have hfb : wb.frozen? ⟨g, i * 2 + 1, none⟩ = false := by
              obtain ⟨g_, c_, cur, hv, -, hb_, -⟩ := (HM.out.kept GB.out).own.blk (Nat.lt_of_le_of_lt (Nat.zero_le _) HM.out.hi)
              cases hv
              exact hb_.frozen _
            have hcR : wb.cell? ⟨R, 0, none⟩ = some (.slice (some ⟨g, 0, none⟩) n2 c2) := (HM.out.d.kept GB.out).cell (j := 0) rfl
            have hq2 : (i : Int) < (n2 : Int) := by omega
            clear hcu
            go_wp2_with fail
            refine bodyPost_end (results_none rfl _ _ _) rfl ?_
            obtain ⟨rs', h1, h2, h3, h4, h5⟩ := HD.out
            exact ⟨rfl, _, rs', h1, h2, h3, HN.out ▸ h4, h5⟩
        | false =>
          have HK : Hid (ky ∉ rs.map (·.1)) := (show _ from fun hm => by
            obtain ⟨y, hy, e1⟩ := List.mem_map.1 hm
            obtain ⟨j, hj, rfl⟩ := List.getElem_of_mem hy
            have h1 := HLT.out j hj
            rw [e1, lt_irrefl] at h1
            have h2 := HLT.out i hlt'
            rw [HX.out] at h2
            rcases Nat.lt_or_ge i j with hl | hl
            · have := List.pairwise_iff_getElem.1 HS.out.srt i j (by simpa using hlt') (by simpa using hj) hl
              simp only [List.getElem_map] at this
              rw [e1, HX.out, show lt x.1 ky = false from q4] at this
              cases this
            · have : i = j := by have := of_decide_eq_false h1.symm; omega
              subst this
              rw [HX.out] at e1
              rw [e1] at h6
              simp at h6)
          refine wp_region_quiet_below Tryz.mixed (by kernel_rfl) ?_
          repeat (go_big_quiet_step (fail))
          refine wpQuiet_nil ?_
          intro w6 hw6
          have D6 : Hid (Below w5.heap.size w5 w6) := (show Below _ _ _ by obtain ⟨⟨dq, osq⟩, rfl⟩ := hw6; exact below_regrown w5 dq osq)
          have L6 : Hid (Below w.heap.size w w6) := L5.out.trans (D6.out.mono L5.out.size)
          have B6 := hide (B5.out.kept D6.out)
          clear hw6 k0' kE' kn'
          go_wp2_with fail
          obtain ⟨a2, hs2, -, hs3⟩ := slice_G (E := RKE) (P := Tryz.prog) Tryz.underlying32 Tryz.size121 (some ⟨b, off, none⟩) n_ cp i (by omega) hcp
          obtain ⟨hs1, hs4⟩ := slice_G_cap (E := RKE) (P := Tryz.prog) Tryz.underlying32 Tryz.size121 (some ⟨b, off, none⟩) n_ cp i (by omega) hcp
          have hbd : ∀ W, (Instr.build 121 #[(0, .string ky)]).run Tryz.prog W = .ok (.agg #[.string ky, .slice none 0 0]) W := fun W => by kernel_rfl
          have hbs : ∀ W, (Instr.buildSlice 32 1 #[(0, .agg #[.string ky, .slice none 0 0])]).run Tryz.prog W = .ok (.slice (some ⟨W.heap.size, 0, none⟩) 1 1) (W.alloc (.cells #[.string ky, .slice none 0 0] 121 (0, 0))) := fun W => by kernel_rfl
          obtain ⟨ti, hti, hz0, hz1, hz2⟩ := info_parts Tryz.info121
          refine wp_region_tails Tryz.mixed (KS (fun i_ => match i_ with | 0 | 1 | 2 | 3 | 12 | 13 | 14 | 20 | 21 => .val (.pointer (some ⟨R, 0, none⟩)) | 4 | 15 => .val (.slice (some ⟨b, off, none⟩) n_ cp) | 5 | 6 | 16 => .val (.int .i64 (i : Int)) | 7 => .val (.slice (some ⟨b, off, none⟩) i i) | 8 => .val (.pointer (some ⟨E, 0, none⟩)) | 9 => .val (.string ky) | 10 => .val (.agg #[.string ky, .slice none 0 0]) | 11 => .of (fun W x => ∃ g, x = .slice (some g) 1 1 ∧ RdG RKE W x [((ky, none, 0, 0) : RK)]) (fun _ _ _ hg h => by obtain ⟨g, h1, h2⟩ := h; exact ⟨g, h1, h2.kept hg⟩) | 17 => .val (.slice a2 (n_ - i) (cp - i)) | 18 => .of (fun W x => RdG RKE W x ([((ky, none, 0, 0) : RK)] ++ rs.drop i)) (fun _ _ _ hg h => RdG.kept h hg) | 19 => .of (fun W x => OwnG RKE W w.heap.size 121 x (rs.take i ++ ([((ky, none, 0, 0) : RK)] ++ rs.drop i))) (fun _ _ _ hg h => OwnG.kept h hg) | _ => .free)) 99 rfl (by decide +kernel) 22 (by decide) (by decide +kernel) (KS_mono _) ?_ ?_
          · refine AllFrom.cons ⟨rfl, fun a' w' hg hk hd Q => ?_⟩ (AllFrom.cons ⟨rfl, fun a' w' hg hk hd Q => ?_⟩ (AllFrom.cons ⟨rfl, fun a' w' hg hk hd Q => ?_⟩ (AllFrom.cons ⟨rfl, fun a' w' hg hk hd Q => ?_⟩ (AllFrom.cons ⟨rfl, fun a' w' hg hk hd Q => ?_⟩ (AllFrom.cons ⟨rfl, fun a' w' hg hk hd Q => ?_⟩ (AllFrom.cons ⟨rfl, fun a' w' hg hk hd Q => ?_⟩ (AllFrom.cons ⟨rfl, fun a' w' hg hk hd Q => ?_⟩ (AllFrom.cons ⟨rfl, fun a' w' hg hk hd Q => ?_⟩ (AllFrom.cons ⟨rfl, fun a' w' hg hk hd Q => ?_⟩ (AllFrom.cons ⟨rfl, fun a' w' hg hk hd Q => ?_⟩ (AllFrom.cons ⟨rfl, fun a' w' hg hk hd Q => ?_⟩ (AllFrom.cons ⟨rfl, fun a' w' hg hk hd Q => ?_⟩ (AllFrom.cons ⟨rfl, fun a' w' hg hk hd Q => ?_⟩ (AllFrom.cons ⟨rfl, fun a' w' hg hk hd Q => ?_⟩ (AllFrom.cons ⟨rfl, fun a' w' hg hk hd Q => ?_⟩ (AllFrom.cons ⟨rfl, fun a' w' hg hk hd Q => ?_⟩ (AllFrom.cons ⟨rfl, fun a' w' hg hk hd Q => ?_⟩ (AllFrom.cons ⟨rfl, fun a' w' hg hk hd Q => ?_⟩ (AllFrom.cons ⟨rfl, fun a' w' hg hk hd Q => ?_⟩ (AllFrom.cons ⟨rfl, fun a' w' hg hk hd Q => ?_⟩ (AllFrom.cons ⟨rfl, fun a' w' hg hk hd Q => ?_⟩ AllFrom.nil)))))))))))))))))))))
            · -- 0: Op.move (Operand.tmp 0)
              have e0 : a'.eval (.tmp 0) = .pointer (some ⟨R, 0, none⟩) := hk.at 0 (by decide +kernel)
              exact wp_value _ (by simp only [execOp, e0]; rfl) (KS_mkv rfl rfl)
            · -- 1: Op.move (Operand.tmp 0)
              have e0 : a'.eval (.tmp 0) = .pointer (some ⟨R, 0, none⟩) := hk.at 0 (by decide +kernel)
              exact wp_value _ (by simp only [execOp, e0]; rfl) (KS_mkv rfl rfl)
            · -- 2: Op.nilCheck (Operand.tmp 52)
              have e52 : a'.eval (.tmp 52) = .pointer (some ⟨R, 0, none⟩) := KS_val (Deps.val hd 1 52 (by decide +kernel)) rfl
              clear hd hk
              exact wp_value (.pointer (some ⟨R, 0, none⟩)) (by simp only [execOp, e52]; go_simp) (KS_mkv rfl rfl)
            · -- 3: Op.fieldAddr 30 (Operand.tmp 53) 0
              have e53 : a'.eval (.tmp 53) = .pointer (some ⟨R, 0, none⟩) := KS_val (Deps.val hd 2 53 (by decide +kernel)) rfl
              clear hd hk
              exact wp_value (.pointer (some ⟨R, 0, none⟩)) (by simp only [execOp, e53]; go_simp) (KS_mkv rfl rfl)
            · -- 4: Op.load 28 (Operand.tmp 54)
              have e54 : a'.eval (.tmp 54) = .pointer (some ⟨R, 0, none⟩) := KS_val (Deps.val hd 3 54 (by decide +kernel)) rfl
              have c_ : w'.cell? ⟨R, 0, none⟩ = some (.slice (some ⟨b, off, none⟩) n_ cp) := ((HS.out.d.kept L6.out).kept hg).cell (j := 0) rfl
              clear hd hk
              exact wp_value (.slice (some ⟨b, off, none⟩) n_ cp) (by simp only [execOp, e54]; go_simp) (KS_mkv rfl rfl)
            · -- 5: Op.move (Operand.tmp 6)
              have e6 : a'.eval (.tmp 6) = .int .i64 (i : Int) := hk.at 6 (by decide +kernel)
              exact wp_value _ (by simp only [execOp, e6]; rfl) (KS_mkv rfl rfl)
            · -- 6: Op.move (Operand.tmp 6)
              have e6 : a'.eval (.tmp 6) = .int .i64 (i : Int) := hk.at 6 (by decide +kernel)
              exact wp_value _ (by simp only [execOp, e6]; rfl) (KS_mkv rfl rfl)
            · -- 7: Op.slice 28 (Operand.tmp 55) none (some (Operand.tmp 56)) (s
              have e55 : a'.eval (.tmp 55) = .slice (some ⟨b, off, none⟩) n_ cp := KS_val (Deps.val hd 4 55 (by decide +kernel)) rfl
              have e56 : a'.eval (.tmp 56) = .int .i64 (i : Int) := KS_val (Deps.val hd 5 56 (by decide +kernel)) rfl
              have e57 : a'.eval (.tmp 57) = .int .i64 (i : Int) := KS_val (Deps.val hd 6 57 (by decide +kernel)) rfl
              clear hd hk
              exact wp_value _ (by simp only [execOp, Option.map_some, Option.map_none, e55, e56, e57, hs1, Sem.run_bind, Sem.run_pure, Result.andThen_ok]) (KS_mkv rfl rfl)
            · -- 8: Op.fieldAddr 49 (Operand.tmp 4) 0
              have e4 : a'.eval (.tmp 4) = .pointer (some ⟨E, 0, none⟩) := hk.at 4 (by decide +kernel)
              clear hd hk
              exact wp_value (.pointer (some ⟨E, 0, none⟩)) (by simp only [execOp, e4]; go_simp) (KS_mkv rfl rfl)
            · -- 9: Op.load 9 (Operand.tmp 59)
              have e59 : a'.eval (.tmp 59) = .pointer (some ⟨E, 0, none⟩) := KS_val (Deps.val hd 8 59 (by decide +kernel)) rfl
              have c_ : w'.cell? ⟨E, 0, none⟩ = some (.string ky) := (B6.out.kept hg).cell (j := 0) rfl
              clear hd hk
              exact wp_value (.string ky) (by simp only [execOp, e59]; go_simp) (KS_mkv rfl rfl)
            · -- 10: Op.build 69 #[(0, Operand.tmp 60)]
              have e60 : a'.eval (.tmp 60) = .string ky := KS_val (Deps.val hd 9 60 (by decide +kernel)) rfl
              clear hd hk
              exact wp_value (.agg #[.string ky, .slice none 0 0]) (by simp only [execOp, List.map_toArray, List.map_cons, List.map_nil, e60, hbd, Sem.run_bind, Sem.run_pure, Result.andThen_ok]) (KS_mkv rfl rfl)
            · -- 11: Op.buildSlice 28 1 #[(0, Operand.tmp 61)]
              have e61 : a'.eval (.tmp 61) = .agg #[.string ky, .slice none 0 0] := KS_val (Deps.val hd 10 61 (by decide +kernel)) rfl
              refine wp_grow (.slice (some ⟨w'.heap.size, 0, none⟩) 1 1) (w'.alloc (.cells (RKC ((ky, none, 0, 0) : RK)).toArray 121 (0, 0))) ?_ ((Below.refl _ _).alloc (Nat.le_refl _) _) (KS_mko rfl ⟨_, rfl, rdG_one (E := RKE) w' 121 ((ky, none, 0, 0) : RK)⟩)
              have hr_ := hbs w'
              simp only [execOp, List.map_toArray, List.map_cons, List.map_nil, e61, hr_, Sem.run_bind, Sem.run_pure, Result.andThen_ok]
              rfl
            · -- 12: Op.move (Operand.tmp 0)
              have e0 : a'.eval (.tmp 0) = .pointer (some ⟨R, 0, none⟩) := hk.at 0 (by decide +kernel)
              exact wp_value _ (by simp only [execOp, e0]; rfl) (KS_mkv rfl rfl)
            · -- 13: Op.nilCheck (Operand.tmp 63)
              have e63 : a'.eval (.tmp 63) = .pointer (some ⟨R, 0, none⟩) := KS_val (Deps.val hd 12 63 (by decide +kernel)) rfl
              clear hd hk
              exact wp_value (.pointer (some ⟨R, 0, none⟩)) (by simp only [execOp, e63]; go_simp) (KS_mkv rfl rfl)
            · -- 14: Op.fieldAddr 30 (Operand.tmp 64) 0
              have e64 : a'.eval (.tmp 64) = .pointer (some ⟨R, 0, none⟩) := KS_val (Deps.val hd 13 64 (by decide +kernel)) rfl
              clear hd hk
              exact wp_value (.pointer (some ⟨R, 0, none⟩)) (by simp only [execOp, e64]; go_simp) (KS_mkv rfl rfl)
            · -- 15: Op.load 28 (Operand.tmp 65)
              have e65 : a'.eval (.tmp 65) = .pointer (some ⟨R, 0, none⟩) := KS_val (Deps.val hd 14 65 (by decide +kernel)) rfl
              have c_ : w'.cell? ⟨R, 0, none⟩ = some (.slice (some ⟨b, off, none⟩) n_ cp) := ((HS.out.d.kept L6.out).kept hg).cell (j := 0) rfl
              clear hd hk
              exact wp_value (.slice (some ⟨b, off, none⟩) n_ cp) (by simp only [execOp, e65]; go_simp) (KS_mkv rfl rfl)
            · -- 16: Op.move (Operand.tmp 6)
              have e6 : a'.eval (.tmp 6) = .int .i64 (i : Int) := hk.at 6 (by decide +kernel)
              exact wp_value _ (by simp only [execOp, e6]; rfl) (KS_mkv rfl rfl)
            · -- 17: Op.slice 28 (Operand.tmp 66) (some (Operand.tmp 67)) none no
              have e66 : a'.eval (.tmp 66) = .slice (some ⟨b, off, none⟩) n_ cp := KS_val (Deps.val hd 15 66 (by decide +kernel)) rfl
              have e67 : a'.eval (.tmp 67) = .int .i64 (i : Int) := KS_val (Deps.val hd 16 67 (by decide +kernel)) rfl
              clear hd hk
              exact wp_value _ (by simp only [execOp, Option.map_some, Option.map_none, e66, e67, hs2, Sem.run_bind, Sem.run_pure, Result.andThen_ok]) (KS_mkv rfl rfl)
            · -- 18: Op.call ( callee := Callee.builtin Builtin.append, args := #
              have r62 := KS_of (Deps.val hd 11 62 (by decide +kernel)) rfl
              have e68 : a'.eval (.tmp 68) = .slice a2 (n_ - i) (cp - i) := KS_val (Deps.val hd 17 68 (by decide +kernel)) rfl
              obtain ⟨g_, eg_, hg_⟩ := r62
              rw [eg_] at hg_
              obtain ⟨v_, w_, hr_, h2_, h3_⟩ := run_append_rd (E := RKE) (P := Tryz.prog) w' 32 32 32 121 ti (.agg #[.string ⟨#[]⟩, .slice none 0 0]) 40 Tryz.underlying32 hti hz0 hz1 hz2 rfl g_ 1 _ hg_ (.slice a2 (n_ - i) (cp - i)) (rs.drop i) ((hs3 _ _ (((HS.out.own.rd).kept L6.out).kept hg)).src 32 121 Tryz.underlying32) (by rw [List.length_drop, HN.out]; simp only [maxLen]; omega) (by rw [List.length_drop, HN.out]; omega)
              refine wp_grow v_ w_ ?_ h3_ (KS_mko rfl h2_)
              simp only [execOp, resolve, invoke, builtin, Sem.run_bind, Sem.run_pure, Result.andThen_ok, List.map_toArray, List.map_cons, List.map_nil, eg_, e68, hr_]
            · -- 19: Op.call ( callee := Callee.builtin Builtin.append, args := #
              have e58 : a'.eval (.tmp 58) = .slice (some ⟨b, off, none⟩) i i := KS_val (Deps.val hd 7 58 (by decide +kernel)) rfl
              have r69 := KS_of (Deps.val hd 18 69 (by decide +kernel)) rfl
              have hlr_ : ([((ky, none, 0, 0) : RK)] ++ rs.drop i).length = 1 + (n_ - i) := by rw [List.length_append, List.length_drop, HN.out]; rfl
              obtain ⟨v_, w_, hr_, h2_, h3_, -⟩ := run_append_full (E := RKE) (P := Tryz.prog) w' w.heap.size 32 32 32 121 ti (.agg #[.string ⟨#[]⟩, .slice none 0 0]) 40 Tryz.underlying32 hti hz0 hz1 hz2 rfl (some ⟨b, off, none⟩) i _ (hs4 _ _ (((HS.out.own.rd).kept L6.out).kept hg)) (a'.eval (.tmp 69)) ([((ky, none, 0, 0) : RK)] ++ rs.drop i) (r69.src 32 121 Tryz.underlying32) (by rw [hlr_]; omega) (by rw [hlr_]; simp only [maxLen]; omega) (by rw [hlr_]; omega) (Nat.le_trans L6.out.size hg.size)
              refine wp_grow v_ w_ ?_ h3_ (KS_mko rfl h2_)
              simp only [execOp, resolve, invoke, builtin, Sem.run_bind, Sem.run_pure, Result.andThen_ok, List.map_toArray, List.map_cons, List.map_nil, e58, hr_]
            · -- 20: Op.nilCheck (Operand.tmp 51)
              have e51 : a'.eval (.tmp 51) = .pointer (some ⟨R, 0, none⟩) := KS_val (Deps.val hd 0 51 (by decide +kernel)) rfl
              clear hd hk
              exact wp_value (.pointer (some ⟨R, 0, none⟩)) (by simp only [execOp, e51]; go_simp) (KS_mkv rfl rfl)
            · -- 21: Op.fieldAddr 30 (Operand.tmp 71) 0
              have e71 : a'.eval (.tmp 71) = .pointer (some ⟨R, 0, none⟩) := KS_val (Deps.val hd 20 71 (by decide +kernel)) rfl
              clear hd hk
              exact wp_value (.pointer (some ⟨R, 0, none⟩)) (by simp only [execOp, e71]; go_simp) (KS_mkv rfl rfl)
          · intro a' w7 hsz hdf hk hall hg
            have e51 : a'.eval (.tmp 51) = .pointer (some ⟨R, 0, none⟩) := KS_val (hall 0 _ 51 (by decide) rfl rfl) rfl
            have e52 : a'.eval (.tmp 52) = .pointer (some ⟨R, 0, none⟩) := KS_val (hall 1 _ 52 (by decide) rfl rfl) rfl
            have e53 : a'.eval (.tmp 53) = .pointer (some ⟨R, 0, none⟩) := KS_val (hall 2 _ 53 (by decide) rfl rfl) rfl
            have e54 : a'.eval (.tmp 54) = .pointer (some ⟨R, 0, none⟩) := KS_val (hall 3 _ 54 (by decide) rfl rfl) rfl
            have e55 : a'.eval (.tmp 55) = .slice (some ⟨b, off, none⟩) n_ cp := KS_val (hall 4 _ 55 (by decide) rfl rfl) rfl
            have e56 : a'.eval (.tmp 56) = .int .i64 (i : Int) := KS_val (hall 5 _ 56 (by decide) rfl rfl) rfl
            have e57 : a'.eval (.tmp 57) = .int .i64 (i : Int) := KS_val (hall 6 _ 57 (by decide) rfl rfl) rfl
            have e58 : a'.eval (.tmp 58) = .slice (some ⟨b, off, none⟩) i i := KS_val (hall 7 _ 58 (by decide) rfl rfl) rfl
            have e59 : a'.eval (.tmp 59) = .pointer (some ⟨E, 0, none⟩) := KS_val (hall 8 _ 59 (by decide) rfl rfl) rfl
            have e60 : a'.eval (.tmp 60) = .string ky := KS_val (hall 9 _ 60 (by decide) rfl rfl) rfl
            have e61 : a'.eval (.tmp 61) = .agg #[.string ky, .slice none 0 0] := KS_val (hall 10 _ 61 (by decide) rfl rfl) rfl
            have r62 := KS_of (hall 11 _ 62 (by decide) rfl rfl) rfl
            obtain ⟨x62, e62⟩ : ∃ v, a'.eval (.tmp 62) = v := ⟨_, rfl⟩
            rw [e62] at r62
            have e63 : a'.eval (.tmp 63) = .pointer (some ⟨R, 0, none⟩) := KS_val (hall 12 _ 63 (by decide) rfl rfl) rfl
            have e64 : a'.eval (.tmp 64) = .pointer (some ⟨R, 0, none⟩) := KS_val (hall 13 _ 64 (by decide) rfl rfl) rfl
            have e65 : a'.eval (.tmp 65) = .pointer (some ⟨R, 0, none⟩) := KS_val (hall 14 _ 65 (by decide) rfl rfl) rfl
            have e66 : a'.eval (.tmp 66) = .slice (some ⟨b, off, none⟩) n_ cp := KS_val (hall 15 _ 66 (by decide) rfl rfl) rfl
            have e67 : a'.eval (.tmp 67) = .int .i64 (i : Int) := KS_val (hall 16 _ 67 (by decide) rfl rfl) rfl
            have e68 : a'.eval (.tmp 68) = .slice a2 (n_ - i) (cp - i) := KS_val (hall 17 _ 68 (by decide) rfl rfl) rfl
            have r69 := KS_of (hall 18 _ 69 (by decide) rfl rfl) rfl
            obtain ⟨x69, e69⟩ : ∃ v, a'.eval (.tmp 69) = v := ⟨_, rfl⟩
            rw [e69] at r69
            have r70 := KS_of (hall 19 _ 70 (by decide) rfl rfl) rfl
            obtain ⟨x70, e70⟩ : ∃ v, a'.eval (.tmp 70) = v := ⟨_, rfl⟩
            rw [e70] at r70
            have e71 : a'.eval (.tmp 71) = .pointer (some ⟨R, 0, none⟩) := KS_val (hall 20 _ 71 (by decide) rfl rfl) rfl
            have e72 : a'.eval (.tmp 72) = .pointer (some ⟨R, 0, none⟩) := KS_val (hall 21 _ 72 (by decide) rfl rfl) rfl
            have HM : Hid (PMid w R (.slice (some ⟨b, off, none⟩) n_ cp) rs ch la fl ky i (w7.setCell ⟨R, 0, none⟩ x70) x70 (rs.take i ++ ([((ky, none, 0, 0) : RK)] ++ rs.drop i))) := HS.out.ins HK.out HI0.out (L6.out.trans (Below.mono hg L6.out.size)) r70
            have B7 := hide ((B6.out.kept hg).set_other (c := R) (by have := HS.out.d.lt; have := HE.out; omega) 0 x70)
            have cR_ := ((HS.out.d.kept L6.out).kept hg).cell (j := 0) rfl
            have fR_ := ((HS.out.d.kept L6.out).kept hg).frozen 0
            obtain ⟨xa, xn, xc, hx_⟩ : ∃ a n c, x70 = .slice a n c := by obtain ⟨xa, xc, h⟩ := r70.rd.slice; exact ⟨_, _, _, h⟩
            subst hx_
            refine ⟨rfl, ?_⟩
            unfold Oper.wp execOp
            simp only [Sem.run_bind, Sem.run_pure, e72, e70]
            go_simp
            show Exit.then _ _ Exit.normal _ _
            have ha := act_puts 99 rfl hsz hdf hk [51, 52, 53, 54, 55, 56, 57, 58, 59, 60, 61, 62, 63, 64, 65, 66, 67, 68, 69, 70, 71, 72] (by decide +kernel)
            simp only [puts, List.foldl_cons, List.foldl_nil, e51, e52, e53, e54, e55, e56, e57, e58, e59, e60, e61, e62, e63, e64, e65, e66, e67, e68, e69, e70, e71, e72] at ha
            simp only [Act.put, List.setIfInBounds_toArray, List.set_cons_succ, List.set_cons_zero] at ha
            clear hall hk hsz hdf hg r70 r62 r69 cR_ fR_ hs1 hs2 hs3 hs4 hbd hbs e51 e52 e53 e54 e55 e56 e57 e58 e59 e60 e61 e62 e63 e64 e65 e66 e67 e68 e69 e70 e71 e72
            subst ha
            obtain ⟨w8, hw8⟩ : ∃ x, x = w7.setCell ⟨R, 0, none⟩ (.slice xa xn xc) := ⟨_, rfl⟩
            rw [← hw8] at HM B7 ⊢
            clear hw8
            obtain ⟨g, n2, c2, ra, HM⟩ : ∃ g n2 c2 ra, Hid (PMid w R (.slice (some ⟨b, off, none⟩) n_ cp) rs ch la fl ky i w8 (.slice (some ⟨g, 0, none⟩) n2 c2) ra) := HM.out.row
            have hn2 : i < n2 := by have := HM.out.hi; rwa [HM.out.own.rd.len] at this
            have hgl : g < w8.heap.size := (HM.out.own.block (b := g) rfl).2.1
            obtain ⟨u, HU⟩ : ∃ u, Hid (ra[i]'HM.out.hi = u) := ⟨_, rfl⟩
            have hcu : w8.cell? ⟨g, i * 2 + 1, none⟩ = some (.slice u.2.1 u.2.2.1 u.2.2.2) := by
              obtain ⟨b_, off_, hv, -, hx⟩ := HM.out.own.rd.nth (by omega)
              cases hv
              have := hx i HM.out.hi 1 (.slice u.2.1 u.2.2.1 u.2.2.2) (by rw [HU.out]; rfl)
              rw [Nat.zero_add] at this
              exact this
            have HUC : Hid (RdV w8 (.slice u.2.1 u.2.2.1 u.2.2.2) (ch ky)) := (show RdV _ _ _ by
              have := HM.out.ch u (by rw [← HU.out]; exact List.getElem_mem _)
              rw [← HU.out, HM.out.nm, HU.out] at this
              exact this)
            have hbv : ∀ W, (Instr.build 140 #[(0, .int .i64 m), (1, .string va), (2, .bool dd)]).run Tryz.prog W = .ok (.agg (VC (m, va, dd)).toArray) W := fun W => by kernel_rfl
            go_wp2_with fail
            refine wp_region_inv Tryz.mixed (KS (fun i_ => match i_ with | 0 | 1 | 2 => .val (.pointer (some ⟨R, 0, none⟩)) | 3 => .val (.slice (some ⟨g, 0, none⟩) n2 c2) | 4 => .val (.int .i64 (i : Int)) | 5 => .val (.pointer (some ⟨g, i * 2, none⟩)) | 6 => .val (.pointer (some ⟨g, i * 2 + 1, none⟩)) | 7 => .val (.slice u.2.1 u.2.2.1 u.2.2.2) | 8 => .val (.int .i64 m) | 9 => .val (.pointer (some ⟨E, 1, none⟩)) | 10 => .val (.string va) | 11 => .val (.pointer (some ⟨E, 2, none⟩)) | 12 => .val (.bool dd) | 13 => .val (.agg (VC (m, va, dd)).toArray) | 14 | 15 => .of (fun W x => ∃ y : Option Addr × Nat × Nat, x = .tuple #[.slice y.1 y.2.1 y.2.2, .bool true] ∧ OwnV W w8.heap.size 140 (.slice y.1 y.2.1 y.2.2) (ch ky ++ [verOf m (ky, va, dd)])) (fun _ _ _ hg h => by obtain ⟨y, h1, h2⟩ := h; exact ⟨y, h1, h2.kept hg⟩) | 16 | 18 => .of (fun W x => ∃ y : Option Addr × Nat × Nat, x = .slice y.1 y.2.1 y.2.2 ∧ OwnV W w8.heap.size 140 (.slice y.1 y.2.1 y.2.2) (ch ky ++ [verOf m (ky, va, dd)])) (fun _ _ _ hg h => by obtain ⟨y, h1, h2⟩ := h; exact ⟨y, h1, h2.kept hg⟩) | 17 | 19 => .val (.bool true) | _ => .free)) 99 rfl (by decide +kernel) (KS_mono _) ?_ ?_
            · refine AllFrom.cons (fun a' w' hg hk hd => ?_) (AllFrom.cons (fun a' w' hg hk hd => ?_) (AllFrom.cons (fun a' w' hg hk hd => ?_) (AllFrom.cons (fun a' w' hg hk hd => ?_) (AllFrom.cons (fun a' w' hg hk hd => ?_) (AllFrom.cons (fun a' w' hg hk hd => ?_) (AllFrom.cons (fun a' w' hg hk hd => ?_) (AllFrom.cons (fun a' w' hg hk hd => ?_) (AllFrom.cons (fun a' w' hg hk hd => ?_) (AllFrom.cons (fun a' w' hg hk hd => ?_) (AllFrom.cons (fun a' w' hg hk hd => ?_) (AllFrom.cons (fun a' w' hg hk hd => ?_) (AllFrom.cons (fun a' w' hg hk hd => ?_) (AllFrom.cons (fun a' w' hg hk hd => ?_) (AllFrom.cons (fun a' w' hg hk hd => ?_) (AllFrom.cons (fun a' w' hg hk hd => ?_) (AllFrom.cons (fun a' w' hg hk hd => ?_) (AllFrom.cons (fun a' w' hg hk hd => ?_) (AllFrom.cons (fun a' w' hg hk hd => ?_) (AllFrom.cons (fun a' w' hg hk hd => ?_) AllFrom.nil)))))))))))))))))))
              · -- 0: Op.move (Operand.tmp 0)
                intro Q
                have e0 : a'.eval (.tmp 0) = .pointer (some ⟨R, 0, none⟩) := hk.at 0 (by decide +kernel)
                exact wp_value _ (by simp only [execOp, e0]; rfl) (KS_mkv rfl rfl)
              · -- 1: Op.nilCheck (Operand.tmp 74)
                intro Q
                have e74 : a'.eval (.tmp 74) = .pointer (some ⟨R, 0, none⟩) := KS_val (Deps.val hd 0 74 (by decide +kernel)) rfl
                clear hd hk
                exact wp_value (.pointer (some ⟨R, 0, none⟩)) (by simp only [execOp, e74]; go_simp) (KS_mkv rfl rfl)
              · -- 2: Op.fieldAddr 30 (Operand.tmp 75) 0
                intro Q
                have e75 : a'.eval (.tmp 75) = .pointer (some ⟨R, 0, none⟩) := KS_val (Deps.val hd 1 75 (by decide +kernel)) rfl
                clear hd hk
                exact wp_value (.pointer (some ⟨R, 0, none⟩)) (by simp only [execOp, e75]; go_simp) (KS_mkv rfl rfl)
              · -- 3: Op.load 28 (Operand.tmp 76)
                intro Q
                have e76 : a'.eval (.tmp 76) = .pointer (some ⟨R, 0, none⟩) := KS_val (Deps.val hd 2 76 (by decide +kernel)) rfl
                have c_ : w'.cell? ⟨R, 0, none⟩ = some (.slice (some ⟨g, 0, none⟩) n2 c2) := (HM.out.d.kept hg).cell (j := 0) rfl
                clear hd hk
                exact wp_value (.slice (some ⟨g, 0, none⟩) n2 c2) (by simp only [execOp, e76]; go_simp) (KS_mkv rfl rfl)
              · -- 4: Op.move (Operand.tmp 6)
                intro Q
                have e6 : a'.eval (.tmp 6) = .int .i64 (i : Int) := hk.at 6 (by decide +kernel)
                exact wp_value _ (by simp only [execOp, e6]; rfl) (KS_mkv rfl rfl)
              · -- 5: Op.indexAddr 28 (Operand.tmp 77) (Operand.tmp 78)
                intro Q
                have e77 : a'.eval (.tmp 77) = .slice (some ⟨g, 0, none⟩) n2 c2 := KS_val (Deps.val hd 3 77 (by decide +kernel)) rfl
                have e78 : a'.eval (.tmp 78) = .int .i64 (i : Int) := KS_val (Deps.val hd 4 78 (by decide +kernel)) rfl
                clear hd hk
                exact wp_value (.pointer (some ⟨g, i * 2, none⟩)) (by simp only [execOp, e77, e78]; go_simp) (KS_mkv rfl rfl)
              · -- 6: Op.fieldAddr 69 (Operand.tmp 79) 1
                intro Q
                have e79 : a'.eval (.tmp 79) = .pointer (some ⟨g, i * 2, none⟩) := KS_val (Deps.val hd 5 79 (by decide +kernel)) rfl
                clear hd hk
                exact wp_value (.pointer (some ⟨g, i * 2 + 1, none⟩)) (by simp only [execOp, e79]; go_simp) (KS_mkv rfl rfl)
              · -- 7: Op.load 67 (Operand.tmp 80)
                intro Q
                have e80 : a'.eval (.tmp 80) = .pointer (some ⟨g, i * 2 + 1, none⟩) := KS_val (Deps.val hd 6 80 (by decide +kernel)) rfl
                have c_ : w'.cell? ⟨g, i * 2 + 1, none⟩ = some (.slice u.2.1 u.2.2.1 u.2.2.2) := (Below.cell hg (p := ⟨g, i * 2 + 1, none⟩) hgl).trans hcu
                clear hd hk
                exact wp_value (.slice u.2.1 u.2.2.1 u.2.2.2) (by simp only [execOp, e80]; go_simp) (KS_mkv rfl rfl)
              · -- 8: Op.move (Operand.tmp 2)
                intro Q
                have e2 : a'.eval (.tmp 2) = .int .i64 m := hk.at 2 (by decide +kernel)
                exact wp_value _ (by simp only [execOp, e2]; rfl) (KS_mkv rfl rfl)
              · -- 9: Op.fieldAddr 49 (Operand.tmp 4) 1
                intro Q
                have e4 : a'.eval (.tmp 4) = .pointer (some ⟨E, 0, none⟩) := hk.at 4 (by decide +kernel)
                clear hd hk
                exact wp_value (.pointer (some ⟨E, 1, none⟩)) (by simp only [execOp, e4]; go_simp) (KS_mkv rfl rfl)
              · -- 10: Op.load 9 (Operand.tmp 83)
                intro Q
                have e83 : a'.eval (.tmp 83) = .pointer (some ⟨E, 1, none⟩) := KS_val (Deps.val hd 9 83 (by decide +kernel)) rfl
                have c_ : w'.cell? ⟨E, 1, none⟩ = some (.string va) := (B7.out.kept hg).cell (j := 1) rfl
                clear hd hk
                exact wp_value (.string va) (by simp only [execOp, e83]; go_simp) (KS_mkv rfl rfl)
              · -- 11: Op.fieldAddr 49 (Operand.tmp 4) 2
                intro Q
                have e4 : a'.eval (.tmp 4) = .pointer (some ⟨E, 0, none⟩) := hk.at 4 (by decide +kernel)
                clear hd hk
                exact wp_value (.pointer (some ⟨E, 2, none⟩)) (by simp only [execOp, e4]; go_simp) (KS_mkv rfl rfl)
              · -- 12: Op.load 4 (Operand.tmp 85)
                intro Q
                have e85 : a'.eval (.tmp 85) = .pointer (some ⟨E, 2, none⟩) := KS_val (Deps.val hd 11 85 (by decide +kernel)) rfl
                have c_ : w'.cell? ⟨E, 2, none⟩ = some (.bool dd) := (B7.out.kept hg).cell (j := 2) rfl
                clear hd hk
                exact wp_value (.bool dd) (by simp only [execOp, e85]; go_simp) (KS_mkv rfl rfl)
              · -- 13: Op.build 87 #[(0, Operand.tmp 82), (1, Operand.tmp 84), (2, 
                intro Q
                have e82 : a'.eval (.tmp 82) = .int .i64 m := KS_val (Deps.val hd 8 82 (by decide +kernel)) rfl
                have e84 : a'.eval (.tmp 84) = .string va := KS_val (Deps.val hd 10 84 (by decide +kernel)) rfl
                have e86 : a'.eval (.tmp 86) = .bool dd := KS_val (Deps.val hd 12 86 (by decide +kernel)) rfl
                clear hd hk
                exact wp_value (.agg (VC (m, va, dd)).toArray) (by simp only [execOp, List.map_toArray, List.map_cons, List.map_nil, e82, e84, e86, hbv, Sem.run_bind, Sem.run_pure, Result.andThen_ok]) (KS_mkv rfl rfl)
              · -- 14: Op.call ( callee := Callee.value (Operand.func 59), args := 
                intro Q
                have e81 : a'.eval (.tmp 81) = .slice u.2.1 u.2.2.1 u.2.2.2 := KS_val (Deps.val hd 7 81 (by decide +kernel)) rfl
                have e87 : a'.eval (.tmp 87) = .agg (VC (m, va, dd)).toArray := KS_val (Deps.val hd 13 87 (by decide +kernel)) rfl
                refine wp_call 95 _ (run_enter 95 _ _ rfl (by kernel_rfl)) ?_
                simp only [List.map_toArray, List.map_nil, List.map_cons, e81, e87]
                refine (kput_own (HUC.out.kept hg) (by omega) (m, va, dd) HP.out).mono ?_
                rintro e_ w_ ⟨v_, rfl, ho_, hb_⟩
                rw [show putP (ch ky) (m, va, dd) = ch ky ++ [verOf m (ky, va, dd)] from putP_ok HP.out] at ho_
                obtain ⟨y, rfl⟩ := ho_.form
                exact ⟨_, rfl, KS_mko rfl ⟨y, rfl, ho_.mono hg.size⟩, hb_⟩
              · -- 15: Op.move (Operand.tmp 88)
                intro Q
                have r88 := KS_of (Deps.val hd 14 88 (by decide +kernel)) rfl
                exact wp_value (a'.eval (.tmp 88)) (by simp only [execOp]; rfl) (KS_mko rfl r88)
              · -- 16: Op.extract (Operand.tmp 73) 0
                intro Q
                have r73 := KS_of (Deps.val hd 15 73 (by decide +kernel)) rfl
                obtain ⟨y, e73, o73⟩ := r73
                exact wp_value (.slice y.1 y.2.1 y.2.2) (by simp only [execOp, e73]; rfl) (KS_mko rfl ⟨y, rfl, o73⟩)
              · -- 17: Op.extract (Operand.tmp 73) 1
                intro Q
                have r73 := KS_of (Deps.val hd 15 73 (by decide +kernel)) rfl
                obtain ⟨y, e73, o73⟩ := r73
                exact wp_value (.bool true) (by simp only [execOp, e73]; rfl) (KS_mkv rfl rfl)
              · -- 18: Op.assign (Operand.tmp 89)
                intro Q
                have r89 := KS_of (Deps.val hd 16 89 (by decide +kernel)) rfl
                exact wp_value (a'.eval (.tmp 89)) (by simp only [execOp]; rfl) (KS_mko rfl r89)
              · -- 19: Op.assign (Operand.tmp 90)
                intro Q
                have e90 : a'.eval (.tmp 90) = .bool true := KS_val (Deps.val hd 17 90 (by decide +kernel)) rfl
                exact wp_value _ (by simp only [execOp, e90]; rfl) (KS_mkv rfl rfl)
            · intro a' wb hsz hdf hk hall hg
              have e74 : a'.eval (.tmp 74) = .pointer (some ⟨R, 0, none⟩) := KS_val (hall 0 _ 74 rfl rfl) rfl
              have e75 : a'.eval (.tmp 75) = .pointer (some ⟨R, 0, none⟩) := KS_val (hall 1 _ 75 rfl rfl) rfl
              have e76 : a'.eval (.tmp 76) = .pointer (some ⟨R, 0, none⟩) := KS_val (hall 2 _ 76 rfl rfl) rfl
              have e77 : a'.eval (.tmp 77) = .slice (some ⟨g, 0, none⟩) n2 c2 := KS_val (hall 3 _ 77 rfl rfl) rfl
              have e78 : a'.eval (.tmp 78) = .int .i64 (i : Int) := KS_val (hall 4 _ 78 rfl rfl) rfl
              have e79 : a'.eval (.tmp 79) = .pointer (some ⟨g, i * 2, none⟩) := KS_val (hall 5 _ 79 rfl rfl) rfl
              have e80 : a'.eval (.tmp 80) = .pointer (some ⟨g, i * 2 + 1, none⟩) := KS_val (hall 6 _ 80 rfl rfl) rfl
              have e81 : a'.eval (.tmp 81) = .slice u.2.1 u.2.2.1 u.2.2.2 := KS_val (hall 7 _ 81 rfl rfl) rfl
              have e82 : a'.eval (.tmp 82) = .int .i64 m := KS_val (hall 8 _ 82 rfl rfl) rfl
              have e83 : a'.eval (.tmp 83) = .pointer (some ⟨E, 1, none⟩) := KS_val (hall 9 _ 83 rfl rfl) rfl
              have e84 : a'.eval (.tmp 84) = .string va := KS_val (hall 10 _ 84 rfl rfl) rfl
              have e85 : a'.eval (.tmp 85) = .pointer (some ⟨E, 2, none⟩) := KS_val (hall 11 _ 85 rfl rfl) rfl
              have e86 : a'.eval (.tmp 86) = .bool dd := KS_val (hall 12 _ 86 rfl rfl) rfl
              have e87 : a'.eval (.tmp 87) = .agg (VC (m, va, dd)).toArray := KS_val (hall 13 _ 87 rfl rfl) rfl
              have r88 := KS_of (hall 14 _ 88 rfl rfl) rfl
              obtain ⟨x88, e88⟩ : ∃ v, a'.eval (.tmp 88) = v := ⟨_, rfl⟩
              rw [e88] at r88
              have r73 := KS_of (hall 15 _ 73 rfl rfl) rfl
              obtain ⟨x73, e73⟩ : ∃ v, a'.eval (.tmp 73) = v := ⟨_, rfl⟩
              rw [e73] at r73
              have r89 := KS_of (hall 16 _ 89 rfl rfl) rfl
              obtain ⟨x89, e89⟩ : ∃ v, a'.eval (.tmp 89) = v := ⟨_, rfl⟩
              rw [e89] at r89
              have e90 : a'.eval (.tmp 90) = .bool true := KS_val (hall 17 _ 90 rfl rfl) rfl
              have r7 := KS_of (hall 18 _ 7 rfl rfl) rfl
              obtain ⟨x7, e7⟩ : ∃ v, a'.eval (.tmp 7) = v := ⟨_, rfl⟩
              rw [e7] at r7
              have e8 : a'.eval (.tmp 8) = .bool true := KS_val (hall 19 _ 8 rfl rfl) rfl
              have ha := act_puts 99 rfl hsz hdf hk [74, 75, 76, 77, 78, 79, 80, 81, 82, 83, 84, 85, 86, 87, 88, 73, 89, 90, 7, 8] (by decide +kernel)
              simp only [puts, List.foldl_cons, List.foldl_nil, e74, e75, e76, e77, e78, e79, e80, e81, e82, e83, e84, e85, e86, e87, e88, e73, e89, e90, e7, e8] at ha
              simp only [Act.put, List.setIfInBounds_toArray, List.set_cons_succ, List.set_cons_zero] at ha
              clear hall hk hsz hdf r88 r73 r89 e74 e75 e76 e77 e78 e79 e80 e81 e82 e83 e84 e85 e86 e87 e88 e73 e89 e90 e7 e8
              subst ha
              obtain ⟨y, rfl, o7⟩ := r7
              have HO := hide o7
              have GB := hide hg
              clear o7 hg hbv
              have HD := hide (HM.out.done (p := (ky, va, dd)) (m := m) (y := y) GB.out HO.out)
              have hcb : wb.cell? ⟨g, i * 2 + 1, none⟩ = some (.slice u.2.1 u.2.2.1 u.2.2.2) := (Below.cell GB.out (p := ⟨g, i * 2 + 1, none⟩) hgl).trans hcu
              have hfb : wb.frozen? ⟨g, i * 2 + 1, none⟩ = false := by
                obtain ⟨g_, c_, cur, hv, -, hb_, -⟩ := (HM.out.kept GB.out).own.blk (Nat.lt_of_le_of_lt (Nat.zero_le _) HM.out.hi)
                cases hv
                exact hb_.frozen _
              have hcR : wb.cell? ⟨R, 0, none⟩ = some (.slice (some ⟨g, 0, none⟩) n2 c2) := (HM.out.d.kept GB.out).cell (j := 0) rfl
              have hq2 : (i : Int) < (n2 : Int) := by omega
              clear hcu
              go_wp2_with fail
              refine bodyPost_end (results_none rfl _ _ _) rfl ?_
              obtain ⟨rs', h1, h2, h3, h4, h5⟩ := HD.out
              exact ⟨rfl, _, rs', h1, h2, h3, HN.out ▸ h4, h5⟩
    · obtain rfl : i = i0 := by omega
      obtain rfl : i = n_ := by omega
      have q2 : decide ((i : Int) < (i : Int)) = false := by simp
      have q5' : ((i : Int) == (i : Int)) = true := by simp
      go_upto_region 2 with fail
      refine wp_region_quiet_below Tryz.mixed (by kernel_rfl) ?_
      repeat (go_big_quiet_step (fail))
      refine wpQuiet_nil ?_
      intro w5 hw5
      have D5 : Hid (Below wr.heap.size wr w5) := (show Below _ _ _ by obtain ⟨⟨dq, osq⟩, rfl⟩ := hw5; exact below_regrown wr dq osq)
      have L5 : Hid (Below w.heap.size w w5) := LR.out.trans (D5.out.mono LR.out.size)
      have B5 := hide (BR.out.kept D5.out)
      have k0' := cell_regrown ((HS.out.d.kept L5.out).cell (j := 0) rfl)
      have kE' := cell_regrown (B5.out.cell (j := 0) rfl)
      simp only at k0' kE'
      clear hw5 k0 kE
      go_upto_region 4 with fail
      have HK : Hid (ky ∉ rs.map (·.1)) := (show _ from fun hm => by
        obtain ⟨y, hy, e1⟩ := List.mem_map.1 hm
        obtain ⟨j, hj, rfl⟩ := List.getElem_of_mem hy
        have h1 := HLT.out j hj
        rw [e1, lt_irrefl] at h1
        have := of_decide_eq_false h1.symm
        have := HN.out
        omega)
      refine wp_region_quiet_below Tryz.mixed (by kernel_rfl) ?_
      repeat (go_big_quiet_step (fail))
      refine wpQuiet_nil ?_
      intro w6 hw6
      have D6 : Hid (Below w5.heap.size w5 w6) := (show Below _ _ _ by obtain ⟨⟨dq, osq⟩, rfl⟩ := hw6; exact below_regrown w5 dq osq)
      have L6 : Hid (Below w.heap.size w w6) := L5.out.trans (D6.out.mono L5.out.size)
      have B6 := hide (B5.out.kept D6.out)
      clear hw6 k0' kE'
      go_wp2_with fail
      obtain ⟨a2, hs2, -, hs3⟩ := slice_G (E := RKE) (P := Tryz.prog) Tryz.underlying32 Tryz.size121 (a) i cp i (by omega) hcp
      obtain ⟨hs1, hs4⟩ := slice_G_cap (E := RKE) (P := Tryz.prog) Tryz.underlying32 Tryz.size121 (a) i cp i (by omega) hcp
      have hbd : ∀ W, (Instr.build 121 #[(0, .string ky)]).run Tryz.prog W = .ok (.agg #[.string ky, .slice none 0 0]) W := fun W => by kernel_rfl
      have hbs : ∀ W, (Instr.buildSlice 32 1 #[(0, .agg #[.string ky, .slice none 0 0])]).run Tryz.prog W = .ok (.slice (some ⟨W.heap.size, 0, none⟩) 1 1) (W.alloc (.cells #[.string ky, .slice none 0 0] 121 (0, 0))) := fun W => by kernel_rfl
      obtain ⟨ti, hti, hz0, hz1, hz2⟩ := info_parts Tryz.info121
      refine wp_region_tails Tryz.mixed (KS (fun i_ => match i_ with | 0 | 1 | 2 | 3 | 12 | 13 | 14 | 20 | 21 => .val (.pointer (some ⟨R, 0, none⟩)) | 4 | 15 => .val (.slice a i cp) | 5 | 6 | 16 => .val (.int .i64 (i : Int)) | 7 => .val (.slice (a) i i) | 8 => .val (.pointer (some ⟨E, 0, none⟩)) | 9 => .val (.string ky) | 10 => .val (.agg #[.string ky, .slice none 0 0]) | 11 => .of (fun W x => ∃ g, x = .slice (some g) 1 1 ∧ RdG RKE W x [((ky, none, 0, 0) : RK)]) (fun _ _ _ hg h => by obtain ⟨g, h1, h2⟩ := h; exact ⟨g, h1, h2.kept hg⟩) | 17 => .val (.slice a2 (i - i) (cp - i)) | 18 => .of (fun W x => RdG RKE W x ([((ky, none, 0, 0) : RK)] ++ rs.drop i)) (fun _ _ _ hg h => RdG.kept h hg) | 19 => .of (fun W x => OwnG RKE W w.heap.size 121 x (rs.take i ++ ([((ky, none, 0, 0) : RK)] ++ rs.drop i))) (fun _ _ _ hg h => OwnG.kept h hg) | _ => .free)) 99 rfl (by decide +kernel) 22 (by decide) (by decide +kernel) (KS_mono _) ?_ ?_
      · refine AllFrom.cons ⟨rfl, fun a' w' hg hk hd Q => ?_⟩ (AllFrom.cons ⟨rfl, fun a' w' hg hk hd Q => ?_⟩ (AllFrom.cons ⟨rfl, fun a' w' hg hk hd Q => ?_⟩ (AllFrom.cons ⟨rfl, fun a' w' hg hk hd Q => ?_⟩ (AllFrom.cons ⟨rfl, fun a' w' hg hk hd Q => ?_⟩ (AllFrom.cons ⟨rfl, fun a' w' hg hk hd Q => ?_⟩ (AllFrom.cons ⟨rfl, fun a' w' hg hk hd Q => ?_⟩ (AllFrom.cons ⟨rfl, fun a' w' hg hk hd Q => ?_⟩ (AllFrom.cons ⟨rfl, fun a' w' hg hk hd Q => ?_⟩ (AllFrom.cons ⟨rfl, fun a' w' hg hk hd Q => ?_⟩ (AllFrom.cons ⟨rfl, fun a' w' hg hk hd Q => ?_⟩ (AllFrom.cons ⟨rfl, fun a' w' hg hk hd Q => ?_⟩ (AllFrom.cons ⟨rfl, fun a' w' hg hk hd Q => ?_⟩ (AllFrom.cons ⟨rfl, fun a' w' hg hk hd Q => ?_⟩ (AllFrom.cons ⟨rfl, fun a' w' hg hk hd Q => ?_⟩ (AllFrom.cons ⟨rfl, fun a' w' hg hk hd Q => ?_⟩ (AllFrom.cons ⟨rfl, fun a' w' hg hk hd Q => ?_⟩ (AllFrom.cons ⟨rfl, fun a' w' hg hk hd Q => ?_⟩ (AllFrom.cons ⟨rfl, fun a' w' hg hk hd Q => ?_⟩ (AllFrom.cons ⟨rfl, fun a' w' hg hk hd Q => ?_⟩ (AllFrom.cons ⟨rfl, fun a' w' hg hk hd Q => ?_⟩ (AllFrom.cons ⟨rfl, fun a' w' hg hk hd Q => ?_⟩ AllFrom.nil)))))))))))))))))))))
        · -- 0: Op.move (Operand.tmp 0)
          have e0 : a'.eval (.tmp 0) = .pointer (some ⟨R, 0, none⟩) := hk.at 0 (by decide +kernel)
          exact wp_value _ (by simp only [execOp, e0]; rfl) (KS_mkv rfl rfl)
        · -- 1: Op.move (Operand.tmp 0)
          have e0 : a'.eval (.tmp 0) = .pointer (some ⟨R, 0, none⟩) := hk.at 0 (by decide +kernel)
          exact wp_value _ (by simp only [execOp, e0]; rfl) (KS_mkv rfl rfl)
        · -- 2: Op.nilCheck (Operand.tmp 52)
          have e52 : a'.eval (.tmp 52) = .pointer (some ⟨R, 0, none⟩) := KS_val (Deps.val hd 1 52 (by decide +kernel)) rfl
          clear hd hk
          exact wp_value (.pointer (some ⟨R, 0, none⟩)) (by simp only [execOp, e52]; go_simp) (KS_mkv rfl rfl)
        · -- 3: Op.fieldAddr 30 (Operand.tmp 53) 0
          have e53 : a'.eval (.tmp 53) = .pointer (some ⟨R, 0, none⟩) := KS_val (Deps.val hd 2 53 (by decide +kernel)) rfl
          clear hd hk
          exact wp_value (.pointer (some ⟨R, 0, none⟩)) (by simp only [execOp, e53]; go_simp) (KS_mkv rfl rfl)
        · -- 4: Op.load 28 (Operand.tmp 54)
          have e54 : a'.eval (.tmp 54) = .pointer (some ⟨R, 0, none⟩) := KS_val (Deps.val hd 3 54 (by decide +kernel)) rfl
          have c_ : w'.cell? ⟨R, 0, none⟩ = some (.slice a i cp) := ((HS.out.d.kept L6.out).kept hg).cell (j := 0) rfl
          clear hd hk
          exact wp_value (.slice a i cp) (by simp only [execOp, e54]; go_simp) (KS_mkv rfl rfl)
        · -- 5: Op.move (Operand.tmp 6)
          have e6 : a'.eval (.tmp 6) = .int .i64 (i : Int) := hk.at 6 (by decide +kernel)
          exact wp_value _ (by simp only [execOp, e6]; rfl) (KS_mkv rfl rfl)
        · -- 6: Op.move (Operand.tmp 6)
          have e6 : a'.eval (.tmp 6) = .int .i64 (i : Int) := hk.at 6 (by decide +kernel)
          exact wp_value _ (by simp only [execOp, e6]; rfl) (KS_mkv rfl rfl)
        · -- 7: Op.slice 28 (Operand.tmp 55) none (some (Operand.tmp 56)) (s
          have e55 : a'.eval (.tmp 55) = .slice a i cp := KS_val (Deps.val hd 4 55 (by decide +kernel)) rfl
          have e56 : a'.eval (.tmp 56) = .int .i64 (i : Int) := KS_val (Deps.val hd 5 56 (by decide +kernel)) rfl
          have e57 : a'.eval (.tmp 57) = .int .i64 (i : Int) := KS_val (Deps.val hd 6 57 (by decide +kernel)) rfl
          clear hd hk
          exact wp_value _ (by simp only [execOp, Option.map_some, Option.map_none, e55, e56, e57, hs1, Sem.run_bind, Sem.run_pure, Result.andThen_ok]) (KS_mkv rfl rfl)
        · -- 8: Op.fieldAddr 49 (Operand.tmp 4) 0
          have e4 : a'.eval (.tmp 4) = .pointer (some ⟨E, 0, none⟩) := hk.at 4 (by decide +kernel)
          clear hd hk
          exact wp_value (.pointer (some ⟨E, 0, none⟩)) (by simp only [execOp, e4]; go_simp) (KS_mkv rfl rfl)
        · -- 9: Op.load 9 (Operand.tmp 59)
          have e59 : a'.eval (.tmp 59) = .pointer (some ⟨E, 0, none⟩) := KS_val (Deps.val hd 8 59 (by decide +kernel)) rfl
          have c_ : w'.cell? ⟨E, 0, none⟩ = some (.string ky) := (B6.out.kept hg).cell (j := 0) rfl
          clear hd hk
          exact wp_value (.string ky) (by simp only [execOp, e59]; go_simp) (KS_mkv rfl rfl)
        · -- 10: Op.build 69 #[(0, Operand.tmp 60)]
          have e60 : a'.eval (.tmp 60) = .string ky := KS_val (Deps.val hd 9 60 (by decide +kernel)) rfl
          clear hd hk
          exact wp_value (.agg #[.string ky, .slice none 0 0]) (by simp only [execOp, List.map_toArray, List.map_cons, List.map_nil, e60, hbd, Sem.run_bind, Sem.run_pure, Result.andThen_ok]) (KS_mkv rfl rfl)
        · -- 11: Op.buildSlice 28 1 #[(0, Operand.tmp 61)]
          have e61 : a'.eval (.tmp 61) = .agg #[.string ky, .slice none 0 0] := KS_val (Deps.val hd 10 61 (by decide +kernel)) rfl
          refine wp_grow (.slice (some ⟨w'.heap.size, 0, none⟩) 1 1) (w'.alloc (.cells (RKC ((ky, none, 0, 0) : RK)).toArray 121 (0, 0))) ?_ ((Below.refl _ _).alloc (Nat.le_refl _) _) (KS_mko rfl ⟨_, rfl, rdG_one (E := RKE) w' 121 ((ky, none, 0, 0) : RK)⟩)
          have hr_ := hbs w'
          simp only [execOp, List.map_toArray, List.map_cons, List.map_nil, e61, hr_, Sem.run_bind, Sem.run_pure, Result.andThen_ok]
          rfl
        · -- 12: Op.move (Operand.tmp 0)
          have e0 : a'.eval (.tmp 0) = .pointer (some ⟨R, 0, none⟩) := hk.at 0 (by decide +kernel)
          exact wp_value _ (by simp only [execOp, e0]; rfl) (KS_mkv rfl rfl)
        · -- 13: Op.nilCheck (Operand.tmp 63)
          have e63 : a'.eval (.tmp 63) = .pointer (some ⟨R, 0, none⟩) := KS_val (Deps.val hd 12 63 (by decide +kernel)) rfl
          clear hd hk
          exact wp_value (.pointer (some ⟨R, 0, none⟩)) (by simp only [execOp, e63]; go_simp) (KS_mkv rfl rfl)
        · -- 14: Op.fieldAddr 30 (Operand.tmp 64) 0
          have e64 : a'.eval (.tmp 64) = .pointer (some ⟨R, 0, none⟩) := KS_val (Deps.val hd 13 64 (by decide +kernel)) rfl
          clear hd hk
          exact wp_value (.pointer (some ⟨R, 0, none⟩)) (by simp only [execOp, e64]; go_simp) (KS_mkv rfl rfl)
        · -- 15: Op.load 28 (Operand.tmp 65)
          have e65 : a'.eval (.tmp 65) = .pointer (some ⟨R, 0, none⟩) := KS_val (Deps.val hd 14 65 (by decide +kernel)) rfl
          have c_ : w'.cell? ⟨R, 0, none⟩ = some (.slice a i cp) := ((HS.out.d.kept L6.out).kept hg).cell (j := 0) rfl
          clear hd hk
          exact wp_value (.slice a i cp) (by simp only [execOp, e65]; go_simp) (KS_mkv rfl rfl)
        · -- 16: Op.move (Operand.tmp 6)
          have e6 : a'.eval (.tmp 6) = .int .i64 (i : Int) := hk.at 6 (by decide +kernel)
          exact wp_value _ (by simp only [execOp, e6]; rfl) (KS_mkv rfl rfl)
        · -- 17: Op.slice 28 (Operand.tmp 66) (some (Operand.tmp 67)) none no
          have e66 : a'.eval (.tmp 66) = .slice a i cp := KS_val (Deps.val hd 15 66 (by decide +kernel)) rfl
          have e67 : a'.eval (.tmp 67) = .int .i64 (i : Int) := KS_val (Deps.val hd 16 67 (by decide +kernel)) rfl
          clear hd hk
          exact wp_value _ (by simp only [execOp, Option.map_some, Option.map_none, e66, e67, hs2, Sem.run_bind, Sem.run_pure, Result.andThen_ok]) (KS_mkv rfl rfl)
        · -- 18: Op.call ( callee := Callee.builtin Builtin.append, args := #
          have r62 := KS_of (Deps.val hd 11 62 (by decide +kernel)) rfl
          have e68 : a'.eval (.tmp 68) = .slice a2 (i - i) (cp - i) := KS_val (Deps.val hd 17 68 (by decide +kernel)) rfl
          obtain ⟨g_, eg_, hg_⟩ := r62
          rw [eg_] at hg_
          obtain ⟨v_, w_, hr_, h2_, h3_⟩ := run_append_rd (E := RKE) (P := Tryz.prog) w' 32 32 32 121 ti (.agg #[.string ⟨#[]⟩, .slice none 0 0]) 40 Tryz.underlying32 hti hz0 hz1 hz2 rfl g_ 1 _ hg_ (.slice a2 (i - i) (cp - i)) (rs.drop i) ((hs3 _ _ (((HS.out.own.rd).kept L6.out).kept hg)).src 32 121 Tryz.underlying32) (by rw [List.length_drop, HN.out]; simp only [maxLen]; omega) (by rw [List.length_drop, HN.out]; omega)
          refine wp_grow v_ w_ ?_ h3_ (KS_mko rfl h2_)
          simp only [execOp, resolve, invoke, builtin, Sem.run_bind, Sem.run_pure, Result.andThen_ok, List.map_toArray, List.map_cons, List.map_nil, eg_, e68, hr_]
        · -- 19: Op.call ( callee := Callee.builtin Builtin.append, args := #
          have e58 : a'.eval (.tmp 58) = .slice (a) i i := KS_val (Deps.val hd 7 58 (by decide +kernel)) rfl
          have r69 := KS_of (Deps.val hd 18 69 (by decide +kernel)) rfl
          have hlr_ : ([((ky, none, 0, 0) : RK)] ++ rs.drop i).length = 1 + (i - i) := by rw [List.length_append, List.length_drop, HN.out]; rfl
          obtain ⟨v_, w_, hr_, h2_, h3_, -⟩ := run_append_full (E := RKE) (P := Tryz.prog) w' w.heap.size 32 32 32 121 ti (.agg #[.string ⟨#[]⟩, .slice none 0 0]) 40 Tryz.underlying32 hti hz0 hz1 hz2 rfl (a) i _ (hs4 _ _ (((HS.out.own.rd).kept L6.out).kept hg)) (a'.eval (.tmp 69)) ([((ky, none, 0, 0) : RK)] ++ rs.drop i) (r69.src 32 121 Tryz.underlying32) (by rw [hlr_]; omega) (by rw [hlr_]; simp only [maxLen]; omega) (by rw [hlr_]; omega) (Nat.le_trans L6.out.size hg.size)
          refine wp_grow v_ w_ ?_ h3_ (KS_mko rfl h2_)
          simp only [execOp, resolve, invoke, builtin, Sem.run_bind, Sem.run_pure, Result.andThen_ok, List.map_toArray, List.map_cons, List.map_nil, e58, hr_]
        · -- 20: Op.nilCheck (Operand.tmp 51)
          have e51 : a'.eval (.tmp 51) = .pointer (some ⟨R, 0, none⟩) := KS_val (Deps.val hd 0 51 (by decide +kernel)) rfl
          clear hd hk
          exact wp_value (.pointer (some ⟨R, 0, none⟩)) (by simp only [execOp, e51]; go_simp) (KS_mkv rfl rfl)
        · -- 21: Op.fieldAddr 30 (Operand.tmp 71) 0
          have e71 : a'.eval (.tmp 71) = .pointer (some ⟨R, 0, none⟩) := KS_val (Deps.val hd 20 71 (by decide +kernel)) rfl
          clear hd hk
          exact wp_value (.pointer (some ⟨R, 0, none⟩)) (by simp only [execOp, e71]; go_simp) (KS_mkv rfl rfl)
      · intro a' w7 hsz hdf hk hall hg
        have e51 : a'.eval (.tmp 51) = .pointer (some ⟨R, 0, none⟩) := KS_val (hall 0 _ 51 (by decide) rfl rfl) rfl
        have e52 : a'.eval (.tmp 52) = .pointer (some ⟨R, 0, none⟩) := KS_val (hall 1 _ 52 (by decide) rfl rfl) rfl
        have e53 : a'.eval (.tmp 53) = .pointer (some ⟨R, 0, none⟩) := KS_val (hall 2 _ 53 (by decide) rfl rfl) rfl
        have e54 : a'.eval (.tmp 54) = .pointer (some ⟨R, 0, none⟩) := KS_val (hall 3 _ 54 (by decide) rfl rfl) rfl
        have e55 : a'.eval (.tmp 55) = .slice a i cp := KS_val (hall 4 _ 55 (by decide) rfl rfl) rfl
        have e56 : a'.eval (.tmp 56) = .int .i64 (i : Int) := KS_val (hall 5 _ 56 (by decide) rfl rfl) rfl
        have e57 : a'.eval (.tmp 57) = .int .i64 (i : Int) := KS_val (hall 6 _ 57 (by decide) rfl rfl) rfl
        have e58 : a'.eval (.tmp 58) = .slice (a) i i := KS_val (hall 7 _ 58 (by decide) rfl rfl) rfl
        have e59 : a'.eval (.tmp 59) = .pointer (some ⟨E, 0, none⟩) := KS_val (hall 8 _ 59 (by decide) rfl rfl) rfl
        have e60 : a'.eval (.tmp 60) = .string ky := KS_val (hall 9 _ 60 (by decide) rfl rfl) rfl
        have e61 : a'.eval (.tmp 61) = .agg #[.string ky, .slice none 0 0] := KS_val (hall 10 _ 61 (by decide) rfl rfl) rfl
        have r62 := KS_of (hall 11 _ 62 (by decide) rfl rfl) rfl
        obtain ⟨x62, e62⟩ : ∃ v, a'.eval (.tmp 62) = v := ⟨_, rfl⟩
        rw [e62] at r62
        have e63 : a'.eval (.tmp 63) = .pointer (some ⟨R, 0, none⟩) := KS_val (hall 12 _ 63 (by decide) rfl rfl) rfl
        have e64 : a'.eval (.tmp 64) = .pointer (some ⟨R, 0, none⟩) := KS_val (hall 13 _ 64 (by decide) rfl rfl) rfl
        have e65 : a'.eval (.tmp 65) = .pointer (some ⟨R, 0, none⟩) := KS_val (hall 14 _ 65 (by decide) rfl rfl) rfl
        have e66 : a'.eval (.tmp 66) = .slice a i cp := KS_val (hall 15 _ 66 (by decide) rfl rfl) rfl
        have e67 : a'.eval (.tmp 67) = .int .i64 (i : Int) := KS_val (hall 16 _ 67 (by decide) rfl rfl) rfl
        have e68 : a'.eval (.tmp 68) = .slice a2 (i - i) (cp - i) := KS_val (hall 17 _ 68 (by decide) rfl rfl) rfl
        have r69 := KS_of (hall 18 _ 69 (by decide) rfl rfl) rfl
        obtain ⟨x69, e69⟩ : ∃ v, a'.eval (.tmp 69) = v := ⟨_, rfl⟩
        rw [e69] at r69
        have r70 := KS_of (hall 19 _ 70 (by decide) rfl rfl) rfl
        obtain ⟨x70, e70⟩ : ∃ v, a'.eval (.tmp 70) = v := ⟨_, rfl⟩
        rw [e70] at r70
        have e71 : a'.eval (.tmp 71) = .pointer (some ⟨R, 0, none⟩) := KS_val (hall 20 _ 71 (by decide) rfl rfl) rfl
        have e72 : a'.eval (.tmp 72) = .pointer (some ⟨R, 0, none⟩) := KS_val (hall 21 _ 72 (by decide) rfl rfl) rfl
        have HM : Hid (PMid w R (.slice a i cp) rs ch la fl ky i (w7.setCell ⟨R, 0, none⟩ x70) x70 (rs.take i ++ ([((ky, none, 0, 0) : RK)] ++ rs.drop i))) := HS.out.ins HK.out HI0.out (L6.out.trans (Below.mono hg L6.out.size)) r70
        have B7 := hide ((B6.out.kept hg).set_other (c := R) (by have := HS.out.d.lt; have := HE.out; omega) 0 x70)
        have cR_ := ((HS.out.d.kept L6.out).kept hg).cell (j := 0) rfl
        have fR_ := ((HS.out.d.kept L6.out).kept hg).frozen 0
        obtain ⟨xa, xn, xc, hx_⟩ : ∃ a n c, x70 = .slice a n c := by obtain ⟨xa, xc, h⟩ := r70.rd.slice; exact ⟨_, _, _, h⟩
        subst hx_
        refine ⟨rfl, ?_⟩
        unfold Oper.wp execOp
        simp only [Sem.run_bind, Sem.run_pure, e72, e70]
        go_simp
        show Exit.then _ _ Exit.normal _ _
        have ha := act_puts 99 rfl hsz hdf hk [51, 52, 53, 54, 55, 56, 57, 58, 59, 60, 61, 62, 63, 64, 65, 66, 67, 68, 69, 70, 71, 72] (by decide +kernel)
        simp only [puts, List.foldl_cons, List.foldl_nil, e51, e52, e53, e54, e55, e56, e57, e58, e59, e60, e61, e62, e63, e64, e65, e66, e67, e68, e69, e70, e71, e72] at ha
        simp only [Act.put, List.setIfInBounds_toArray, List.set_cons_succ, List.set_cons_zero] at ha
        clear hall hk hsz hdf hg r70 r62 r69 cR_ fR_ hs1 hs2 hs3 hs4 hbd hbs e51 e52 e53 e54 e55 e56 e57 e58 e59 e60 e61 e62 e63 e64 e65 e66 e67 e68 e69 e70 e71 e72
        subst ha
        obtain ⟨w8, hw8⟩ : ∃ x, x = w7.setCell ⟨R, 0, none⟩ (.slice xa xn xc) := ⟨_, rfl⟩
        rw [← hw8] at HM B7 ⊢
        clear hw8
        obtain ⟨g, n2, c2, ra, HM⟩ : ∃ g n2 c2 ra, Hid (PMid w R (.slice a i cp) rs ch la fl ky i w8 (.slice (some ⟨g, 0, none⟩) n2 c2) ra) := HM.out.row
        have hn2 : i < n2 := by have := HM.out.hi; rwa [HM.out.own.rd.len] at this
        have hgl : g < w8.heap.size := (HM.out.own.block (b := g) rfl).2.1
        obtain ⟨u, HU⟩ : ∃ u, Hid (ra[i]'HM.out.hi = u) := ⟨_, rfl⟩
        have hcu : w8.cell? ⟨g, i * 2 + 1, none⟩ = some (.slice u.2.1 u.2.2.1 u.2.2.2) := by
          obtain ⟨b_, off_, hv, -, hx⟩ := HM.out.own.rd.nth (by omega)
          cases hv
          have := hx i HM.out.hi 1 (.slice u.2.1 u.2.2.1 u.2.2.2) (by rw [HU.out]; rfl)
          rw [Nat.zero_add] at this
          exact this
        have HUC : Hid (RdV w8 (.slice u.2.1 u.2.2.1 u.2.2.2) (ch ky)) := (show RdV _ _ _ by
          have := HM.out.ch u (by rw [← HU.out]; exact List.getElem_mem _)
          rw [← HU.out, HM.out.nm, HU.out] at this
          exact this)
        have hbv : ∀ W, (Instr.build 140 #[(0, .int .i64 m), (1, .string va), (2, .bool dd)]).run Tryz.prog W = .ok (.agg (VC (m, va, dd)).toArray) W := fun W => by kernel_rfl
        go_wp2_with fail
        refine wp_region_inv Tryz.mixed (KS (fun i_ => match i_ with | 0 | 1 | 2 => .val (.pointer (some ⟨R, 0, none⟩)) | 3 => .val (.slice (some ⟨g, 0, none⟩) n2 c2) | 4 => .val (.int .i64 (i : Int)) | 5 => .val (.pointer (some ⟨g, i * 2, none⟩)) | 6 => .val (.pointer (some ⟨g, i * 2 + 1, none⟩)) | 7 => .val (.slice u.2.1 u.2.2.1 u.2.2.2) | 8 => .val (.int .i64 m) | 9 => .val (.pointer (some ⟨E, 1, none⟩)) | 10 => .val (.string va) | 11 => .val (.pointer (some ⟨E, 2, none⟩)) | 12 => .val (.bool dd) | 13 => .val (.agg (VC (m, va, dd)).toArray) | 14 | 15 => .of (fun W x => ∃ y : Option Addr × Nat × Nat, x = .tuple #[.slice y.1 y.2.1 y.2.2, .bool true] ∧ OwnV W w8.heap.size 140 (.slice y.1 y.2.1 y.2.2) (ch ky ++ [verOf m (ky, va, dd)])) (fun _ _ _ hg h => by obtain ⟨y, h1, h2⟩ := h; exact ⟨y, h1, h2.kept hg⟩) | 16 | 18 => .of (fun W x => ∃ y : Option Addr × Nat × Nat, x = .slice y.1 y.2.1 y.2.2 ∧ OwnV W w8.heap.size 140 (.slice y.1 y.2.1 y.2.2) (ch ky ++ [verOf m (ky, va, dd)])) (fun _ _ _ hg h => by obtain ⟨y, h1, h2⟩ := h; exact ⟨y, h1, h2.kept hg⟩) | 17 | 19 => .val (.bool true) | _ => .free)) 99 rfl (by decide +kernel) (KS_mono _) ?_ ?_
        · refine AllFrom.cons (fun a' w' hg hk hd => ?_) (AllFrom.cons (fun a' w' hg hk hd => ?_) (AllFrom.cons (fun a' w' hg hk hd => ?_) (AllFrom.cons (fun a' w' hg hk hd => ?_) (AllFrom.cons (fun a' w' hg hk hd => ?_) (AllFrom.cons (fun a' w' hg hk hd => ?_) (AllFrom.cons (fun a' w' hg hk hd => ?_) (AllFrom.cons (fun a' w' hg hk hd => ?_) (AllFrom.cons (fun a' w' hg hk hd => ?_) (AllFrom.cons (fun a' w' hg hk hd => ?_) (AllFrom.cons (fun a' w' hg hk hd => ?_) (AllFrom.cons (fun a' w' hg hk hd => ?_) (AllFrom.cons (fun a' w' hg hk hd => ?_) (AllFrom.cons (fun a' w' hg hk hd => ?_) (AllFrom.cons (fun a' w' hg hk hd => ?_) (AllFrom.cons (fun a' w' hg hk hd => ?_) (AllFrom.cons (fun a' w' hg hk hd => ?_) (AllFrom.cons (fun a' w' hg hk hd => ?_) (AllFrom.cons (fun a' w' hg hk hd => ?_) (AllFrom.cons (fun a' w' hg hk hd => ?_) AllFrom.nil)))))))))))))))))))
          · -- 0: Op.move (Operand.tmp 0)
            intro Q
            have e0 : a'.eval (.tmp 0) = .pointer (some ⟨R, 0, none⟩) := hk.at 0 (by decide +kernel)
            exact wp_value _ (by simp only [execOp, e0]; rfl) (KS_mkv rfl rfl)
          · -- 1: Op.nilCheck (Operand.tmp 74)
            intro Q
            have e74 : a'.eval (.tmp 74) = .pointer (some ⟨R, 0, none⟩) := KS_val (Deps.val hd 0 74 (by decide +kernel)) rfl
            clear hd hk
            exact wp_value (.pointer (some ⟨R, 0, none⟩)) (by simp only [execOp, e74]; go_simp) (KS_mkv rfl rfl)
          · -- 2: Op.fieldAddr 30 (Operand.tmp 75) 0
            intro Q
            have e75 : a'.eval (.tmp 75) = .pointer (some ⟨R, 0, none⟩) := KS_val (Deps.val hd 1 75 (by decide +kernel)) rfl
            clear hd hk
            exact wp_value (.pointer (some ⟨R, 0, none⟩)) (by simp only [execOp, e75]; go_simp) (KS_mkv rfl rfl)
          · -- 3: Op.load 28 (Operand.tmp 76)
            intro Q
            have e76 : a'.eval (.tmp 76) = .pointer (some ⟨R, 0, none⟩) := KS_val (Deps.val hd 2 76 (by decide +kernel)) rfl
            have c_ : w'.cell? ⟨R, 0, none⟩ = some (.slice (some ⟨g, 0, none⟩) n2 c2) := (HM.out.d.kept hg).cell (j := 0) rfl
            clear hd hk
            exact wp_value (.slice (some ⟨g, 0, none⟩) n2 c2) (by simp only [execOp, e76]; go_simp) (KS_mkv rfl rfl)
          · -- 4: Op.move (Operand.tmp 6)
            intro Q
            have e6 : a'.eval (.tmp 6) = .int .i64 (i : Int) := hk.at 6 (by decide +kernel)
            exact wp_value _ (by simp only [execOp, e6]; rfl) (KS_mkv rfl rfl)
          · -- 5: Op.indexAddr 28 (Operand.tmp 77) (Operand.tmp 78)
            intro Q
            have e77 : a'.eval (.tmp 77) = .slice (some ⟨g, 0, none⟩) n2 c2 := KS_val (Deps.val hd 3 77 (by decide +kernel)) rfl
            have e78 : a'.eval (.tmp 78) = .int .i64 (i : Int) := KS_val (Deps.val hd 4 78 (by decide +kernel)) rfl
            clear hd hk
            exact wp_value (.pointer (some ⟨g, i * 2, none⟩)) (by simp only [execOp, e77, e78]; go_simp) (KS_mkv rfl rfl)
          · -- 6: Op.fieldAddr 69 (Operand.tmp 79) 1
            intro Q
            have e79 : a'.eval (.tmp 79) = .pointer (some ⟨g, i * 2, none⟩) := KS_val (Deps.val hd 5 79 (by decide +kernel)) rfl
            clear hd hk
            exact wp_value (.pointer (some ⟨g, i * 2 + 1, none⟩)) (by simp only [execOp, e79]; go_simp) (KS_mkv rfl rfl)
          · -- 7: Op.load 67 (Operand.tmp 80)
            intro Q
            have e80 : a'.eval (.tmp 80) = .pointer (some ⟨g, i * 2 + 1, none⟩) := KS_val (Deps.val hd 6 80 (by decide +kernel)) rfl
            have c_ : w'.cell? ⟨g, i * 2 + 1, none⟩ = some (.slice u.2.1 u.2.2.1 u.2.2.2) := (Below.cell hg (p := ⟨g, i * 2 + 1, none⟩) hgl).trans hcu
            clear hd hk
            exact wp_value (.slice u.2.1 u.2.2.1 u.2.2.2) (by simp only [execOp, e80]; go_simp) (KS_mkv rfl rfl)
          · -- 8: Op.move (Operand.tmp 2)
            intro Q
            have e2 : a'.eval (.tmp 2) = .int .i64 m := hk.at 2 (by decide +kernel)
            exact wp_value _ (by simp only [execOp, e2]; rfl) (KS_mkv rfl rfl)
          · -- 9: Op.fieldAddr 49 (Operand.tmp 4) 1
            intro Q
            have e4 : a'.eval (.tmp 4) = .pointer (some ⟨E, 0, none⟩) := hk.at 4 (by decide +kernel)
            clear hd hk
            exact wp_value (.pointer (some ⟨E, 1, none⟩)) (by simp only [execOp, e4]; go_simp) (KS_mkv rfl rfl)
          · -- 10: Op.load 9 (Operand.tmp 83)
            intro Q
            have e83 : a'.eval (.tmp 83) = .pointer (some ⟨E, 1, none⟩) := KS_val (Deps.val hd 9 83 (by decide +kernel)) rfl
            have c_ : w'.cell? ⟨E, 1, none⟩ = some (.string va) := (B7.out.kept hg).cell (j := 1) rfl
            clear hd hk
            exact wp_value (.string va) (by simp only [execOp, e83]; go_simp) (KS_mkv rfl rfl)
          · -- 11: Op.fieldAddr 49 (Operand.tmp 4) 2
            intro Q
            have e4 : a'.eval (.tmp 4) = .pointer (some ⟨E, 0, none⟩) := hk.at 4 (by decide +kernel)
            clear hd hk
            exact wp_value (.pointer (some ⟨E, 2, none⟩)) (by simp only [execOp, e4]; go_simp) (KS_mkv rfl rfl)
          · -- 12: Op.load 4 (Operand.tmp 85)
            intro Q
            have e85 : a'.eval (.tmp 85) = .pointer (some ⟨E, 2, none⟩) := KS_val (Deps.val hd 11 85 (by decide +kernel)) rfl
            have c_ : w'.cell? ⟨E, 2, none⟩ = some (.bool dd) := (B7.out.kept hg).cell (j := 2) rfl
            clear hd hk
            exact wp_value (.bool dd) (by simp only [execOp, e85]; go_simp) (KS_mkv rfl rfl)
          · -- 13: Op.build 87 #[(0, Operand.tmp 82), (1, Operand.tmp 84), (2, 
            intro Q
            have e82 : a'.eval (.tmp 82) = .int .i64 m := KS_val (Deps.val hd 8 82 (by decide +kernel)) rfl
            have e84 : a'.eval (.tmp 84) = .string va := KS_val (Deps.val hd 10 84 (by decide +kernel)) rfl
            have e86 : a'.eval (.tmp 86) = .bool dd := KS_val (Deps.val hd 12 86 (by decide +kernel)) rfl
            clear hd hk
            exact wp_value (.agg (VC (m, va, dd)).toArray) (by simp only [execOp, List.map_toArray, List.map_cons, List.map_nil, e82, e84, e86, hbv, Sem.run_bind, Sem.run_pure, Result.andThen_ok]) (KS_mkv rfl rfl)
          · -- 14: Op.call ( callee := Callee.value (Operand.func 59), args := 
            intro Q
            have e81 : a'.eval (.tmp 81) = .slice u.2.1 u.2.2.1 u.2.2.2 := KS_val (Deps.val hd 7 81 (by decide +kernel)) rfl
            have e87 : a'.eval (.tmp 87) = .agg (VC (m, va, dd)).toArray := KS_val (Deps.val hd 13 87 (by decide +kernel)) rfl
            refine wp_call 95 _ (run_enter 95 _ _ rfl (by kernel_rfl)) ?_
            simp only [List.map_toArray, List.map_nil, List.map_cons, e81, e87]
            refine (kput_own (HUC.out.kept hg) (by omega) (m, va, dd) HP.out).mono ?_
            rintro e_ w_ ⟨v_, rfl, ho_, hb_⟩
            rw [show putP (ch ky) (m, va, dd) = ch ky ++ [verOf m (ky, va, dd)] from putP_ok HP.out] at ho_
            obtain ⟨y, rfl⟩ := ho_.form
            exact ⟨_, rfl, KS_mko rfl ⟨y, rfl, ho_.mono hg.size⟩, hb_⟩
          · -- 15: Op.move (Operand.tmp 88)
            intro Q
            have r88 := KS_of (Deps.val hd 14 88 (by decide +kernel)) rfl
            exact wp_value (a'.eval (.tmp 88)) (by simp only [execOp]; rfl) (KS_mko rfl r88)
          · -- 16: Op.extract (Operand.tmp 73) 0
            intro Q
            have r73 := KS_of (Deps.val hd 15 73 (by decide +kernel)) rfl
            obtain ⟨y, e73, o73⟩ := r73
            exact wp_value (.slice y.1 y.2.1 y.2.2) (by simp only [execOp, e73]; rfl) (KS_mko rfl ⟨y, rfl, o73⟩)
          · -- 17: Op.extract (Operand.tmp 73) 1
            intro Q
            have r73 := KS_of (Deps.val hd 15 73 (by decide +kernel)) rfl
            obtain ⟨y, e73, o73⟩ := r73
            exact wp_value (.bool true) (by simp only [execOp, e73]; rfl) (KS_mkv rfl rfl)
          · -- 18: Op.assign (Operand.tmp 89)
            intro Q
            have r89 := KS_of (Deps.val hd 16 89 (by decide +kernel)) rfl
            exact wp_value (a'.eval (.tmp 89)) (by simp only [execOp]; rfl) (KS_mko rfl r89)
          · -- 19: Op.assign (Operand.tmp 90)
            intro Q
            have e90 : a'.eval (.tmp 90) = .bool true := KS_val (Deps.val hd 17 90 (by decide +kernel)) rfl
            exact wp_value _ (by simp only [execOp, e90]; rfl) (KS_mkv rfl rfl)
        · intro a' wb hsz hdf hk hall hg
          have e74 : a'.eval (.tmp 74) = .pointer (some ⟨R, 0, none⟩) := KS_val (hall 0 _ 74 rfl rfl) rfl
          have e75 : a'.eval (.tmp 75) = .pointer (some ⟨R, 0, none⟩) := KS_val (hall 1 _ 75 rfl rfl) rfl
          have e76 : a'.eval (.tmp 76) = .pointer (some ⟨R, 0, none⟩) := KS_val (hall 2 _ 76 rfl rfl) rfl
          have e77 : a'.eval (.tmp 77) = .slice (some ⟨g, 0, none⟩) n2 c2 := KS_val (hall 3 _ 77 rfl rfl) rfl
          have e78 : a'.eval (.tmp 78) = .int .i64 (i : Int) := KS_val (hall 4 _ 78 rfl rfl) rfl
          have e79 : a'.eval (.tmp 79) = .pointer (some ⟨g, i * 2, none⟩) := KS_val (hall 5 _ 79 rfl rfl) rfl
          have e80 : a'.eval (.tmp 80) = .pointer (some ⟨g, i * 2 + 1, none⟩) := KS_val (hall 6 _ 80 rfl rfl) rfl
          have e81 : a'.eval (.tmp 81) = .slice u.2.1 u.2.2.1 u.2.2.2 := KS_val (hall 7 _ 81 rfl rfl) rfl
          have e82 : a'.eval (.tmp 82) = .int .i64 m := KS_val (hall 8 _ 82 rfl rfl) rfl
          have e83 : a'.eval (.tmp 83) = .pointer (some ⟨E, 1, none⟩) := KS_val (hall 9 _ 83 rfl rfl) rfl
          have e84 : a'.eval (.tmp 84) = .string va := KS_val (hall 10 _ 84 rfl rfl) rfl
          have e85 : a'.eval (.tmp 85) = .pointer (some ⟨E, 2, none⟩) := KS_val (hall 11 _ 85 rfl rfl) rfl
          have e86 : a'.eval (.tmp 86) = .bool dd := KS_val (hall 12 _ 86 rfl rfl) rfl
          have e87 : a'.eval (.tmp 87) = .agg (VC (m, va, dd)).toArray := KS_val (hall 13 _ 87 rfl rfl) rfl
          have r88 := KS_of (hall 14 _ 88 rfl rfl) rfl
          obtain ⟨x88, e88⟩ : ∃ v, a'.eval (.tmp 88) = v := ⟨_, rfl⟩
          rw [e88] at r88
          have r73 := KS_of (hall 15 _ 73 rfl rfl) rfl
          obtain ⟨x73, e73⟩ : ∃ v, a'.eval (.tmp 73) = v := ⟨_, rfl⟩
          rw [e73] at r73
          have r89 := KS_of (hall 16 _ 89 rfl rfl) rfl
          obtain ⟨x89, e89⟩ : ∃ v, a'.eval (.tmp 89) = v := ⟨_, rfl⟩
          rw [e89] at r89
          have e90 : a'.eval (.tmp 90) = .bool true := KS_val (hall 17 _ 90 rfl rfl) rfl
          have r7 := KS_of (hall 18 _ 7 rfl rfl) rfl
          obtain ⟨x7, e7⟩ : ∃ v, a'.eval (.tmp 7) = v := ⟨_, rfl⟩
          rw [e7] at r7
          have e8 : a'.eval (.tmp 8) = .bool true := KS_val (hall 19 _ 8 rfl rfl) rfl
          have ha := act_puts 99 rfl hsz hdf hk [74, 75, 76, 77, 78, 79, 80, 81, 82, 83, 84, 85, 86, 87, 88, 73, 89, 90, 7, 8] (by decide +kernel)
          simp only [puts, List.foldl_cons, List.foldl_nil, e74, e75, e76, e77, e78, e79, e80, e81, e82, e83, e84, e85, e86, e87, e88, e73, e89, e90, e7, e8] at ha
          simp only [Act.put, List.setIfInBounds_toArray, List.set_cons_succ, List.set_cons_zero] at ha
          clear hall hk hsz hdf r88 r73 r89 e74 e75 e76 e77 e78 e79 e80 e81 e82 e83 e84 e85 e86 e87 e88 e73 e89 e90 e7 e8
          subst ha
          obtain ⟨y, rfl, o7⟩ := r7
          have HO := hide o7
          have GB := hide hg
          clear o7 hg hbv
          have HD := hide (HM.out.done (p := (ky, va, dd)) (m := m) (y := y) GB.out HO.out)
          have hcb : wb.cell? ⟨g, i * 2 + 1, none⟩ = some (.slice u.2.1 u.2.2.1 u.2.2.2) := (Below.cell GB.out (p := ⟨g, i * 2 + 1, none⟩) hgl).trans hcu
          have hfb : wb.frozen? ⟨g, i * 2 + 1, none⟩ = false := by
            obtain ⟨g_, c_, cur, hv, -, hb_, -⟩ := (HM.out.kept GB.out).own.blk (Nat.lt_of_le_of_lt (Nat.zero_le _) HM.out.hi)
            cases hv
            exact hb_.frozen _
          have hcR : wb.cell? ⟨R, 0, none⟩ = some (.slice (some ⟨g, 0, none⟩) n2 c2) := (HM.out.d.kept GB.out).cell (j := 0) rfl
          have hq2 : (i : Int) < (n2 : Int) := by omega
          clear hcu
          go_wp2_with fail
          refine bodyPost_end (results_none rfl _ _ _) rfl ?_
          obtain ⟨rs', h1, h2, h3, h4, h5⟩ := HD.out
          exact ⟨rfl, _, rs', h1, h2, h3, HN.out ▸ h4, h5⟩
end Go.Proofs.YtcicekggeampcaaGreat
