/-
  The reference's put: rows that are full, and what is kept inside the call.
-/
import Derived.Test.YtgaoionnfkbhaaaRfD
namespace Go.Proofs.Ytgaoionnfkbhaaa
open Go.RowKit
section
variable {α : Type} {E : Enc α}
/-- Append to a row that is full, of something: a new row. -/
theorem run_append_full {P : Program} (w : World) (base : Nat) (t tx ty e : TypeId) (i : TypeInfo) (z : Value) (bytes : Nat) (ht : P.underlying t = some (.slice e)) (hi : P.info? e = some i) (hz : i.zero = some z)
    (hsize : i.size = E.n) (hby : i.bytes = bytes) (hzs : z.cells.size = E.n) (a : Option Addr) (n : Nat) (L : List α) (hr : RdG E w (.slice a n n) L) (x : Value) (M : List α) (hs : Src P E.n tx x M.length (E.cs M) w) (hm : 0 < M.length)
    (h63 : n + M.length ≤ maxLen) (hbytes : (n + M.length) * bytes ≤ 140737488355328) (hbase : base ≤ w.heap.size) :
    ∃ v' w', (Builtin.append_ #[t, tx] ty #[.slice a n n, x]).run P w = .ok v' w' ∧ OwnG E w' base e v' (L ++ M) ∧ Below w.heap.size w w' ∧ ∀ b, v'.ownBlock = some b → b = w.heap.size := by
  subst hby
  have hln := hr.len
  have hsmall : n + M.length ≤ 9223372036854775807 := by simp only [maxLen] at h63; omega
  have hold : (Builtin.firstCells i.size n (.slice a n n)).run P w.drew = .ok (E.cs L).toArray w.drew := by
    obtain ⟨a', cap', e', h1, h2, h3, h4⟩ := hr
    simp only [Value.slice.injEq] at e'
    obtain ⟨rfl, -, rfl⟩ := e'
    cases a with
    | none =>
      have hn0 := h3 rfl
      have hL : L = [] := List.eq_nil_of_length_eq_zero (by omega)
      subst hL
      exact run_firstCells_none w.drew i.size n n n
    | some b =>
      refine run_firstCells_some w.drew i.size n b n n (E.cs L) (by rw [Enc.cs_length, hsize, hln]) (fun j u hj => ?_)
      have hp : 0 < L.length := by
        have := (List.getElem?_eq_some_iff.1 hj).1
        rw [Enc.cs_length] at this
        exact Nat.pos_of_ne_zero fun h0 => by rw [h0] at this; omega
      obtain ⟨b', off, eb, -, hc⟩ := h4 hp
      cases eb
      rw [Addr.add_mid]
      exact hc j u hj
  have hs' : Src P i.size tx x M.length (E.cs M) w := by rw [hsize]; exact hs
  have hrun := run_append_grow_src (P := P) w t tx ty e i z ht hi hz a n n (E.cs L) hold x M.length (E.cs M) hs' (by omega) (by omega) (growslice_fits (by omega) hbytes)
  have hge := grownCap_ge w (n + M.length) n e
  have hcm : grownCap w (n + M.length) n e ≤ maxLen := grownCap_le_maxLen w (n + M.length) n e h63
  refine ⟨_, _, hrun, ?_, ⟨rfl, rfl, rfl, by simp, fun k hk => Below.heap_alloc w.drew _ k hk⟩, fun b hb => by simpa [Value.ownBlock] using hb.symm⟩
  have hlen : (E.cs L ++ E.cs M).length = (n + M.length) * E.n := by rw [← Enc.cs_append, Enc.cs_length, List.length_append, hln]
  unfold OwnG
  rw [Enc.cs_append, List.length_append, hln]
  refine ⟨hlen, .inr ⟨w.heap.size, _, _, rfl, hbase, heap_alloc_new w.drew _, hge, hcm, ?_, ?_⟩⟩
  · simp only [Array.size_append, List.size_toArray, size_zeroCells, hzs, hlen, ← Nat.add_mul]
    congr 1
    omega
  · simp only [Array.toList_append]
    rw [← hlen]
    exact List.take_left
/-- Append to a row that is full, of what there is. -/
theorem run_append_rd {P : Program} (w : World) (t tx ty e : TypeId) (i : TypeInfo) (z : Value) (bytes : Nat) (ht : P.underlying t = some (.slice e)) (hi : P.info? e = some i) (hz : i.zero = some z)
    (hsize : i.size = E.n) (hby : i.bytes = bytes) (hzs : z.cells.size = E.n) (g : Addr) (n : Nat) (L : List α) (hr : RdG E w (.slice (some g) n n) L) (x : Value) (M : List α) (hs : Src P E.n tx x M.length (E.cs M) w)
    (h63 : n + M.length ≤ maxLen) (hbytes : (n + M.length) * bytes ≤ 140737488355328) :
    ∃ v' w', (Builtin.append_ #[t, tx] ty #[.slice (some g) n n, x]).run P w = .ok v' w' ∧ RdG E w' v' (L ++ M) ∧ Below w.heap.size w w' := by
  by_cases hm : M.length = 0
  · have hM : M = [] := List.eq_nil_of_length_eq_zero hm
    subst hM
    refine ⟨.slice (some g) n n, w, ?_, by rw [List.append_nil]; exact hr, Below.refl _ _⟩
    have h1 := hs.len
    have h2 := hs.cells
    simp only [List.length_nil, Enc.cs_nil] at h1 h2
    rcases hs.kind with ⟨e', hk⟩ | hk <;> simp [Builtin.append_, run_underlying ht, run_underlying hk, sizeOf, typeInfo, hi, h1, h2, hsize, storeCells]
  · obtain ⟨v', w', h1, h2, h3, -⟩ := run_append_full (E := E) (P := P) w 0 t tx ty e i z bytes ht hi hz hsize hby hzs (some g) n L hr x M hs (by omega) h63 hbytes (Nat.zero_le _)
    exact ⟨v', w', h1, h2.rd, h3⟩
/-- The first j, with no room behind. -/
theorem slice_G_cap {P : Program} {t e : TypeId} (ht : P.underlying t = some (.slice e)) (hsz : (P.info? e).map (·.size) = some E.n) (a : Option Addr) (n cap j : Nat) (hj : j ≤ n) (hn : n ≤ cap) :
    (∀ W, (Instr.sliceAt t (.slice a n cap) none (some (.int .i64 (j : Int))) (some (.int .i64 (j : Int)))).run P W = .ok (.slice a j j) W) ∧
      (∀ w (L : List α), RdG E w (.slice a n cap) L → RdG E w (.slice a j j) (L.take j)) := by
  have e2 : (j : Int) ≤ (cap : Int) := by omega
  refine ⟨fun W => ?_, fun w L hr => ?_⟩
  · cases hq : P.info? e with
    | none => simp [hq] at hsz
    | some k =>
      cases a <;> simp [Instr.sliceAt, Instr.slice, run_underlying ht, Instr.sliceBounds, run_sliceBound, e2, sizeOf, typeInfo, hq, Addr.add]
  · obtain ⟨a0, cap0, e, h1, h2, h3, h4⟩ := hr
    simp only [Value.slice.injEq] at e
    obtain ⟨rfl, rfl, rfl⟩ := e
    refine ⟨a, j, by rw [List.length_take]; congr 1; omega, by rw [List.length_take]; omega, by omega, fun h => by have := h3 h; omega, fun hp => ?_⟩
    rw [List.length_take] at hp
    obtain ⟨b, off, rfl, hlt, hcell⟩ := h4 (by omega)
    refine ⟨b, off, rfl, hlt, fun k u hk => hcell k u ?_⟩
    rw [Enc.cs_take] at hk
    have : k < j * E.n := by have := (List.getElem?_eq_some_iff.1 hk).1; rw [List.length_take] at this; omega
    rwa [List.getElem?_take_of_lt this] at hk
end
/-- The reference's keys, while pairs are put. -/
structure RS0 (w : World) (R : Nat) (vr : Value) (rs : List RK) (ch : ByteArray → List Ver) (la fl : Int) : Prop where
  d : Blk w R 30 (RC vr la fl)
  own : OwnG RKE w 0 69 vr rs
  srt : Srt (rs.map (·.1))
  mem : ∀ k, k ∈ rs.map (·.1) ↔ ch k ≠ []
  ch : ∀ x ∈ rs, RdV w (rkv x) (ch x.1)
  ap : ∀ x ∈ rs, ∀ b, InB (rkv x) b → b ≠ R ∧ vr.ownBlock ≠ some b
theorem RS.zero {w : World} {R : Nat} {vr : Value} {rs : List RK} {s : SP} (h : RS w R vr rs s) : RS0 w R vr rs s.ch s.last s.floor := ⟨h.d, h.own, h.inv.srt, h.inv.mem, h.ch, h.ap⟩
theorem RS0.kept {w w' : World} {R : Nat} {vr : Value} {rs : List RK} {ch : ByteArray → List Ver} {la fl : Int} (h : RS0 w R vr rs ch la fl) (hb : Below w.heap.size w w') : RS0 w' R vr rs ch la fl :=
  ⟨h.d.kept hb, h.own.kept hb, h.srt, h.mem, fun x hx => (h.ch x hx).kept hb, h.ap⟩
/-- What there is when the key stands in its place. -/
structure PMid (w : World) (R : Nat) (vr : Value) (rs : List RK) (ch : ByteArray → List Ver) (la fl : Int) (ky : ByteArray) (i : Nat) (wa : World) (va : Value) (ra : List RK) : Prop where
  d : Blk wa R 30 (RC va la fl)
  own : OwnG RKE wa 0 69 va ra
  srt : Srt (ra.map (·.1))
  mem : ∀ k, k ∈ ra.map (·.1) ↔ (k = ky ∨ ch k ≠ [])
  hi : i < ra.length
  nm : ra[i].1 = ky
  ch : ∀ x ∈ ra, RdV wa (rkv x) (ch x.1)
  ap : ∀ x ∈ ra, ∀ b, InB (rkv x) b → b ≠ R ∧ va.ownBlock ≠ some b
  chg : Chg (fun b => b = R ∨ vr.ownBlock = some b) w wa
  bl : ∀ b, RB R va ra b → RB R vr rs b ∨ w.heap.size ≤ b
  len : ra.length ≤ rs.length + 1
  vb : ∀ b, va.ownBlock = some b → vr.ownBlock = some b ∨ w.heap.size ≤ b
theorem PMid.kept {w : World} {R : Nat} {vr : Value} {rs : List RK} {ch : ByteArray → List Ver} {la fl : Int} {ky : ByteArray} {i : Nat} {wa wb : World} {va : Value} {ra : List RK} (h : PMid w R vr rs ch la fl ky i wa va ra) (hb : Below wa.heap.size wa wb) : PMid w R vr rs ch la fl ky i wb va ra :=
  ⟨h.d.kept hb, h.own.kept hb, h.srt, h.mem, h.hi, h.nm, fun x hx => (h.ch x hx).kept hb, h.ap, h.chg.trans (Chg.of_below hb), h.bl, h.len, h.vb⟩
theorem PMid.row {w : World} {R : Nat} {vr : Value} {rs : List RK} {ch : ByteArray → List Ver} {la fl : Int} {ky : ByteArray} {i : Nat} {wa : World} {va : Value} {ra : List RK} (h : PMid w R vr rs ch la fl ky i wa va ra) : ∃ g n2 c2 ra, PMid w R vr rs ch la fl ky i wa (.slice (some ⟨g, 0, none⟩) n2 c2) ra := by
  obtain ⟨g, c2, cur, rfl, -⟩ := h.own.blk (Nat.lt_of_le_of_lt (Nat.zero_le _) h.hi)
  exact ⟨g, _, c2, _, h⟩
theorem RKE_set (rs : List RK) (i : Nat) (h : i < rs.length) (y : Option Addr × Nat × Nat) : (RKE.cs rs).set (i * 2 + 1) (.slice y.1 y.2.1 y.2.2) = RKE.cs (rs.set i (rs[i].1, y)) := by
  induction rs generalizing i with
  | nil => simp at h
  | cons x rs ih =>
    cases i with
    | zero => rfl
    | succ i =>
      have := ih i (by simpa using h)
      rw [List.set_cons_succ, Enc.cs_cons, Enc.cs_cons, List.getElem_cons_succ, ← this, show (i + 1) * 2 + 1 = (i * 2 + 1) + 1 + 1 by omega]
      rfl
theorem OwnG.setC {w : World} {g n cap : Nat} {e : TypeId} {rs : List RK} (h : OwnG RKE w 0 e (.slice (some ⟨g, 0, none⟩) n cap) rs) {i : Nat} (hi : i < rs.length) (y : Option Addr × Nat × Nat) :
    OwnG RKE (w.setCell ⟨g, i * 2 + 1, none⟩ (.slice y.1 y.2.1 y.2.2)) 0 e (.slice (some ⟨g, 0, none⟩) n cap) (rs.set i (rs[i].1, y)) := by
  have hn := h.rd.len
  obtain ⟨g', cap', cur, hv, hB, hb, ht, hc, h1, h2⟩ := h.blk (by omega)
  simp only [Value.slice.injEq, Option.some.injEq, Addr.mk.injEq, and_true] at hv
  obtain ⟨rfl, -, rfl⟩ := hv
  have := OwnG.of_blk (E := RKE) (B := 0) (L := rs.set i (rs[i].1, y)) (hb.set (i * 2 + 1) (.slice y.1 y.2.1 y.2.2)) (Nat.zero_le _) (by
    rw [List.length_set, List.take_set, ht]
    exact RKE_set rs i hi y) (by rw [List.length_set, hc]) (by rw [List.length_set]; exact h1) h2
  rw [List.length_set, hn] at this
  exact this
theorem OwnV.form {w : World} {B : Nat} {e : TypeId} {v : Value} {L : List Ver} (h : OwnV w B e v L) : ∃ y : Option Addr × Nat × Nat, v = .slice y.1 y.2.1 y.2.2 := by
  obtain ⟨a, c, h⟩ := h.rd.slice
  exact ⟨(a, L.length, c), h⟩
/-- The chain of the key is stored. -/
theorem PMid.done {w : World} {R : Nat} {vr : Value} {rs : List RK} {ch : ByteArray → List Ver} {la fl : Int} {i : Nat} {p : Pr} {m : Int} {wa wb : World} {g n cap : Nat} {ra : List RK} (h : PMid w R vr rs ch la fl p.1 i wa (.slice (some ⟨g, 0, none⟩) n cap) ra) (hb : Below wa.heap.size wa wb)
    {y : Option Addr × Nat × Nat} {e : TypeId} (ho : OwnV wb wa.heap.size e (.slice y.1 y.2.1 y.2.2) (ch p.1 ++ [verOf m p])) :
    ∃ rs', RS0 (wb.setCell ⟨g, i * 2 + 1, none⟩ (.slice y.1 y.2.1 y.2.2)) R (.slice (some ⟨g, 0, none⟩) n cap) rs' (add1 ch m p) la fl ∧ Chg (fun b => b = R ∨ vr.ownBlock = some b) w (wb.setCell ⟨g, i * 2 + 1, none⟩ (.slice y.1 y.2.1 y.2.2)) ∧
      (∀ b, RB R (.slice (some ⟨g, 0, none⟩) n cap) rs' b → RB R vr rs b ∨ w.heap.size ≤ b) ∧ rs'.length ≤ rs.length + 1 ∧ (∀ b, (Value.slice (some ⟨g, 0, none⟩) n cap).ownBlock = some b → vr.ownBlock = some b ∨ w.heap.size ≤ b) := by
  have hk := h.kept hb
  have hlt : g < wb.heap.size := (hk.own.block (b := g) rfl).2.1
  have hgR : g ≠ R := fun e' => by
    obtain ⟨_, _, cur, hc⟩ := hk.own.block (b := g) rfl
    have := hk.d
    unfold Blk at this
    rw [← e', hc] at this
    cases this
  have hga : g < wa.heap.size := (h.own.block (b := g) rfl).2.1
  have hyb : ∀ b, InB (.slice y.1 y.2.1 y.2.2) b → wa.heap.size ≤ b := fun b hb' => (ho.block (inB_own hb')).1
  have hc : Chg (fun b => b = g) wb (wb.setCell ⟨g, i * 2 + 1, none⟩ (.slice y.1 y.2.1 y.2.2)) := Chg.setCell (F := fun b => b = g) _ rfl _ _
  have hnames : (ra.set i (ra[i]'h.hi |>.1, y)).map (·.1) = ra.map (·.1) := by
    refine List.ext_getElem (by simp) fun j h1 h2 => ?_
    simp only [List.getElem_map]
    by_cases hj : j = i
    · subst hj; simp
    · rw [List.getElem_set_ne (by omega)]
  have hmem : ∀ x ∈ ra.set i (ra[i]'h.hi |>.1, y), x = (p.1, y) ∨ (x ∈ ra ∧ x.1 ≠ p.1) := by
    intro x hx
    obtain ⟨j, hj, rfl⟩ := List.getElem_of_mem hx
    by_cases hji : j = i
    · subst hji
      left
      rw [List.getElem_set_self, h.nm]
    · right
      have hj' : j < ra.length := by simpa using hj
      rw [List.getElem_set_ne (by omega)]
      refine ⟨List.getElem_mem _, fun e' => hji ?_⟩
      have hs := h.srt
      have hp := List.pairwise_iff_getElem.1 hs
      rcases Nat.lt_or_gt_of_ne hji with hl | hl
      · have := hp j i (by simpa using hj') (by simpa using h.hi) hl
        simp only [List.getElem_map] at this
        rw [e', h.nm, lt_irrefl] at this
        cases this
      · have := hp i j (by simpa using h.hi) (by simpa using hj') hl
        simp only [List.getElem_map] at this
        rw [e', h.nm, lt_irrefl] at this
        cases this
  have hch : ∀ k, add1 ch m p k = if k = p.1 then ch k ++ [verOf m p] else ch k := fun _ => rfl
  refine ⟨ra.set i (ra[i]'h.hi |>.1, y), ⟨hk.d.chg hc (fun e' => hgR e'.symm), hk.own.setC h.hi y, by rw [hnames]; exact h.srt, fun k => ?_, fun x hx => ?_, fun x hx b hb' => ?_⟩, ?_, fun b hb' => ?_, by rw [List.length_set]; exact h.len, h.vb⟩
  · rw [hnames, h.mem k, hch]
    by_cases hkp : k = p.1
    · rw [if_pos hkp]; simp [hkp]
    · rw [if_neg hkp]; simp [hkp]
  · rcases hmem x hx with rfl | ⟨h1, h2⟩
    · rw [hch, if_pos rfl]
      exact ho.rd.chg hc (fun b hb' e' => by have := hyb b hb'; omega)
    · rw [hch, if_neg h2]
      exact (hk.ch x h1).chg hc (fun b hb' e' => (h.ap x h1 b hb').2 (by rw [e']; rfl))
  · rcases hmem x hx with rfl | ⟨h1, h2⟩
    · have := hyb b hb'
      have hR := h.d.lt
      refine ⟨by omega, fun e' => ?_⟩
      have : g = b := by simpa [Value.ownBlock] using e'
      omega
    · exact h.ap x h1 b hb'
  · refine h.chg.then ((Chg.of_below hb).trans (Chg.setCell (F := fun b => b = g) _ rfl _ _)) fun b hlt' e' => ?_
    rcases h.vb g rfl with h1 | h1
    · exact .inr (by rw [e']; exact h1)
    · omega
  · rcases hb' with h1 | h1 | ⟨x, hx, h1⟩
    · exact .inl (.inl h1)
    · rcases h.vb b h1 with h2 | h2
      · exact .inl (.inr (.inl h2))
      · exact .inr h2
    · rcases hmem x hx with rfl | ⟨h2, -⟩
      · have := hyb b h1
        exact .inr (Nat.le_trans h.chg.size this)
      · exact h.bl b (.inr (.inr ⟨x, h2, h1⟩))
/-- The key was there. -/
theorem RS0.mid {w : World} {R : Nat} {vr : Value} {rs : List RK} {ch : ByteArray → List Ver} {la fl : Int} (h : RS0 w R vr rs ch la fl) {i : Nat} (hi : i < rs.length) {ky : ByteArray} (hk : rs[i].1 = ky) {wa : World} (hb : Below w.heap.size w wa) : PMid w R vr rs ch la fl ky i wa vr rs :=
  ⟨h.d.kept hb, h.own.kept hb, h.srt, fun k => by
    rw [h.mem k]
    refine ⟨.inr, fun hq => hq.elim (fun e => ?_) id⟩
    rw [← h.mem k, e, ← hk]
    exact List.mem_map.2 ⟨_, List.getElem_mem hi, rfl⟩, hi, hk, fun x hx => (h.ch x hx).kept hb, h.ap, Chg.of_below hb, fun _ hb' => .inl hb', by omega, fun _ hb' => .inl hb'⟩
theorem srt_insert {ks : List ByteArray} {k : ByteArray} (h : Srt ks) (hn : k ∉ ks) : Srt (ks.take (lb ks k) ++ ([k] ++ ks.drop (lb ks k))) := by
  unfold Srt
  rw [List.pairwise_append]
  refine ⟨srt_take h _, ?_, fun a ha b hb => ?_⟩
  · rw [List.pairwise_append]
    refine ⟨List.pairwise_singleton _ _, srt_drop h _, fun a ha b hb => ?_⟩
    rw [List.mem_singleton] at ha
    subst ha
    have h1 := lb_drop h b hb
    cases hq : lt a b with
    | true => rfl
    | false => exact absurd (lt_total hq h1 ▸ List.mem_of_mem_drop hb) hn
  · have h1 := lb_take h a ha
    rcases List.mem_append.1 hb with hb | hb
    · rw [List.mem_singleton] at hb
      subst hb
      exact h1
    · exact lt_of_not h1 (lb_drop h b hb)
/-- The key is new: the row is new. -/
theorem RS0.ins {w : World} {R : Nat} {vr : Value} {rs : List RK} {ch : ByteArray → List Ver} {la fl : Int} (h : RS0 w R vr rs ch la fl) {ky : ByteArray} (hn : ky ∉ rs.map (·.1)) {i : Nat} (hi : lb (rs.map (·.1)) ky = i) {wa : World} (hb : Below w.heap.size w wa)
    {va : Value} (ho : OwnG RKE wa w.heap.size 69 va (rs.take i ++ ([(ky, none, 0, 0)] ++ rs.drop i))) : PMid w R vr rs ch la fl ky i (wa.setCell ⟨R, 0, none⟩ va) va (rs.take i ++ ([(ky, none, 0, 0)] ++ rs.drop i)) := by
  have hR := h.d.lt
  have hle : i ≤ rs.length := by have := lb_le (rs.map (·.1)) ky; rw [List.length_map] at this; omega
  have hc : Chg (fun b => b = R) wa (wa.setCell ⟨R, 0, none⟩ va) := Chg.setCell (F := fun b => b = R) _ rfl _ _
  have hck : ch ky = [] := by
    cases hq : ch ky with
    | nil => rfl
    | cons a b => exact absurd ((h.mem ky).2 (by rw [hq]; simp)) hn
  have hvb : ∀ b, va.ownBlock = some b → w.heap.size ≤ b := fun b hb' => (ho.block hb').1
  have hnb : ∀ b, ¬ InB (rkv (ky, none, 0, 0)) b := by
    rintro b ⟨off, n, cap, e', _⟩
    simp [rkv] at e'
  have hold : ∀ x ∈ rs.take i ++ ([(ky, none, 0, 0)] ++ rs.drop i), x = (ky, none, 0, 0) ∨ x ∈ rs := by
    intro x hx
    rcases List.mem_append.1 hx with hx | hx
    · exact .inr (List.mem_of_mem_take hx)
    · rcases List.mem_append.1 hx with hx | hx
      · exact .inl (by simpa using hx)
      · exact .inr (List.mem_of_mem_drop hx)
  have hbl : ∀ x ∈ rs, ∀ b, InB (rkv x) b → b < w.heap.size := by
    intro x hx b hb'
    obtain ⟨off, n, cap, e', hp⟩ := hb'
    have hr := h.ch x hx
    rw [e'] at hr
    obtain ⟨b', off', e2, h2, -⟩ := hr.nth hp
    cases e2
    exact h2
  have hmap : (rs.take i ++ ([((ky, none, 0, 0) : RK)] ++ rs.drop i)).map (fun x : RK => x.1) = (rs.map (·.1)).take i ++ ([ky] ++ (rs.map (·.1)).drop i) := by simp [List.map_take, List.map_drop]
  refine ⟨((h.d.kept hb).set 0 va), ho.mono (Nat.zero_le _) |>.chg hc (fun b hb' e' => by have := hvb b hb'; omega), by rw [hmap, ← hi]; exact srt_insert h.srt hn, fun k => ?_, by simp; omega, ?_, fun x hx => ?_, fun x hx b hb' => ?_, ?_, fun b hb' => ?_, by simp; omega, fun b hb' => .inr (hvb b hb')⟩
  · rw [hmap, ← h.mem k]
    simp only [List.mem_append, List.mem_singleton]
    constructor
    · rintro (h1 | h1 | h1)
      · exact .inr (List.mem_of_mem_take h1)
      · exact .inl h1
      · exact .inr (List.mem_of_mem_drop h1)
    · rintro (h1 | h1)
      · exact .inr (.inl h1)
      · rw [← List.take_append_drop i (rs.map (·.1))] at h1
        rcases List.mem_append.1 h1 with h1 | h1
        · exact .inl h1
        · exact .inr (.inr h1)
  · have : (rs.take i).length = i := by rw [List.length_take]; omega
    rw [List.getElem_append_right (by omega)]
    simp [this]
  · rcases hold x hx with rfl | hx
    · rw [hck]
      exact RdV_nil _
    · exact ((h.ch x hx).kept hb).chg hc (fun b hb' e' => (h.ap x hx b hb').1 e')
  · rcases hold x hx with rfl | hx
    · exact absurd hb' (hnb b)
    · exact ⟨(h.ap x hx b hb').1, fun e' => by have := hvb b e'; have := hbl x hx b hb'; omega⟩
  · exact (Chg.of_below hb).trans (hc.mono (fun _ _ e' => .inl e'))
  · rcases hb' with h1 | h1 | ⟨x, hx, h1⟩
    · exact .inl (.inl h1)
    · exact .inr (hvb b h1)
    · rcases hold x hx with rfl | hx
      · exact absurd h1 (hnb b)
      · exact .inl (.inr (.inr ⟨x, hx, h1⟩))
end Go.Proofs.Ytgaoionnfkbhaaa
