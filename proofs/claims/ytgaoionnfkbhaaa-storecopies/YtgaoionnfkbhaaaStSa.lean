/-
  Scans: plain facts; a row of keys beside a law's own store.
-/
import Derived.Test.YtgaoionnfkbhaaaStC
import Derived.Test.YtgaoionnfkbhaaaRegion7
namespace Go.Proofs.Ytgaoionnfkbhaaa
open Go.RowKit
theorem wpList_append_at {α : Type} {E : Enc α} {P : Program} (w : World) {ops : Array Oper} {rest : List Oper} {o : Oper} {a : Act} {Q : Exit → Act → World → Prop} (hgd : o.guard = none) (s x : Operand) (t tx : TypeId)
    (ho : o.op = .call { callee := .builtin .append, args := #[s, x], argTypes := #[t, tx] })
    (base : Nat) (e : TypeId) (z : Value) (bytes : Nat) (ht : P.underlying t = some (.slice e)) (hi : (P.info? e).map (fun i => (i.zero, i.size, i.bytes)) = some (some z, E.n, bytes)) (hzs : z.cells.size = E.n)
    (v : Value) (L : List α) (hv : a.eval s = v) (hown : OwnG E w base e v L)
    (xv : Value) (M : List α) (hx : a.eval x = xv) (hr : RdG E w xv M) (e' : TypeId) (htx : P.underlying tx = some (.slice e'))
    (hlen : (L.length + M.length) * bytes ≤ 140737488355328) (hm : L.length + M.length ≤ maxLen) (hbase : base ≤ w.heap.size)
    (h : ∀ v' w', OwnG E w' base e v' (L ++ M) ∧ w.grownBy w' v.ownBlock ∧ (∀ b, v'.ownBlock = some b → v.ownBlock = some b ∨ b = w.heap.size) → wpList P ops Q rest (a.put o.dst v') w') : wpList P ops Q (o :: rest) a w := by
  obtain ⟨i, hi0, hz0, hz1, hz2⟩ := info_parts hi
  refine wpList_plain hgd fun K hK => ?_
  obtain ⟨v', w', hq, h2, h3, h4⟩ := run_append_at (P := P) w base t tx o.type e i z E.n bytes ht hi0 hz0 hz1 hz2 hzs v L.length (E.cs L) hown xv M.length (E.cs M) (hr.src tx e' htx) hm hlen hbase
  unfold Oper.wp execOp
  simp only [ho, resolve, invoke, builtin, Sem.run_bind, Sem.run_pure, Result.andThen_ok, List.map_toArray, List.map_cons, List.map_nil, hv, hx, hq]
  refine hK _ _ (h v' w' ⟨?_, h3, h4⟩)
  unfold OwnG
  rw [List.length_append, Enc.cs_append]
  exact h2
/-- A row of keys that is none of the store's grows. -/
theorem LS.grown {w wr wr' : World} {D i : Nat} {s : SP} {O : Nat → Prop} (h : LS w wr D i s O) {B : Nat} {v v' : Value} {L L' : List ByteArray} (ho : OwnG KE wr B 9 v L) (hB : w.heap.size ≤ B) (hO : ∀ b, v.ownBlock = some b → O b) (hg : wr.grownBy wr' v.ownBlock)
    (ho' : OwnG KE wr' B 9 v' L') (hv : ∀ b, v'.ownBlock = some b → v.ownBlock = some b ∨ b = wr.heap.size) : LS w wr' D i s (fun b => O b ∨ v'.ownBlock = some b) := by
  obtain ⟨M, vk, ks, h1, h2, h3, h4⟩ := h
  have hc : Chg (fun b => v.ownBlock = some b) wr wr' := Chg.of_grown hg (fun k e _ => e)
  refine ⟨M, vk, ks, ⟨h1.st.chg hc (fun b hb e => (h4 b (hO b e)).2 hb) (fun b cur hb e => ?_), h1.hD, h1.hM, h1.hk, h1.lo.trans (hc.below h1.lo.size (fun k hk e => ?_))⟩, h2, h3, fun b hb => ?_⟩
  · obtain ⟨_, _, cu2, h5⟩ := ho.block e
    rw [hb] at h5
    cases h5
  · have := (ho.block e).1
    omega
  · rcases hb with hb | hb
    · exact ⟨Nat.lt_of_lt_of_le (h4 b hb).1 hc.size, (h4 b hb).2⟩
    · rcases hv b hb with h | h
      · exact ⟨Nat.lt_of_lt_of_le (h4 b (hO b h)).1 hc.size, (h4 b (hO b h)).2⟩
      · exact ⟨(ho'.block hb).2.1, fun hm => by have := h1.st.lt hm; omega⟩
theorem OwnG.same {α : Type} {E : Enc α} {O : Nat → Prop} {w w' : World} {B : Nat} {e : TypeId} {v : Value} {L : List α} (h : OwnG E w B e v L) (hs : Same O w w') (hO : ∀ b, v.ownBlock = some b → O b) : OwnG E w' B e v L := by
  obtain ⟨h1, h2⟩ := h
  refine ⟨h1, ?_⟩
  rcases h2 with h2 | ⟨g, cap, cur, hv, hg, hh, r⟩
  · exact Or.inl h2
  · exact Or.inr ⟨g, cap, cur, hv, hg, by rw [hs g (hO g (by rw [hv]; rfl))]; exact hh, r⟩
theorem buildA2 (a : Ac) (W : World) : (Instr.buildSlice 22 1 #[(0, .agg (AC a).toArray)]).run Try.prog W = .ok (.slice (some ⟨W.heap.size, 0, none⟩) 1 1) (W.alloc (.cells (AC a).toArray 33 (0, 0))) := by
  kernel_rfl
theorem wpList_buildA_2 {ops : Array Oper} {rest : List Oper} {op : Oper} {a : Act} {w : World} {Q : Exit → Act → World → Prop} (hw : Region.wanted op (yielded ops a.tmps) = true) (x : Operand) (ho : op.op = .buildSlice 22 1 #[(0, x)]) (p : Ac) (hx : a.eval x = .agg (AC p).toArray)
    (h : wpList Try.prog ops Q rest (a.put op.dst (.slice (some ⟨w.heap.size, 0, none⟩) 1 1)) (w.alloc (.cells (AC p).toArray 33 (0, 0)))) : wpList Try.prog ops Q (op :: rest) a w := by
  refine wpList_step fun K hK => ?_
  rw [if_pos hw]
  have hr := buildA2 p w
  unfold Oper.wp execOp
  simp only [ho, hx, hr, List.map_toArray, List.map_cons, List.map_nil, Sem.run_bind, Sem.run_pure, Result.andThen_ok]
  exact hK _ _ h
theorem wpList_load_2 {P : Program} {ops : Array Oper} {rest : List Oper} {o : Oper} {a : Act} {w : World} {Q : Exit → Act → World → Prop} (hw : Region.wanted o (yielded ops a.tmps) = true) (ty : TypeId) (x : Operand) (ho : o.op = .load ty x)
    (b off : Nat) (hx : a.eval x = .pointer (some ⟨b, off, none⟩)) (cs : List Value) (d : TypeDesc) (hc : w.rangeAt b off cs) (hu : P.underlying ty = some d) (hd : d.isRow = true) (hi : (P.info? ty).map (·.size) = some cs.length)
    (h : wpList P ops Q rest (a.put o.dst (.agg cs.toArray)) w) : wpList P ops Q (o :: rest) a w := by
  refine wpList_step fun K hK => ?_
  rw [if_pos hw]
  unfold Oper.wp execOp
  simp only [ho, hx, Instr.loadAt, Instr.sureAddr, Sem.run_bind, Sem.run_pure, Result.andThen_ok, run_loadVar_mid w b off ty cs d hc hu hd hi]
  exact hK _ _ h
theorem wpSeqW_call {P : Program} {ops : Array Oper} {o : Oper} {r : List Oper} {a : Act} {w : World} {Q : Exit → Act → World → Prop} (hw : Region.wanted o (yielded ops a.tmps) = true) (f : FuncId) (args : Array Value) (hrun : (execOp a.eval o).run P w = .ok (.enter f args) w)
    (hc : Calls P f args w fun e w' => ∃ v, e = .returned v ∧ wpSeqW P ops Q r (a.put o.dst v) w') : wpSeqW P ops Q (o :: r) a w := by
  refine ⟨hw, ?_⟩
  unfold Oper.wp
  rw [hrun]
  refine hc.mono ?_
  rintro e w' ⟨v, rfl, hv⟩
  exact ⟨v, rfl, hv⟩
theorem wpSeqW_value {P : Program} {ops : Array Oper} {o : Oper} {r : List Oper} {a : Act} {w : World} {Q : Exit → Act → World → Prop} (hw : Region.wanted o (yielded ops a.tmps) = true) (v : Value) (hrun : (execOp a.eval o).run P w = .ok (.value v) w)
    (h : wpSeqW P ops Q r (a.put o.dst v) w) : wpSeqW P ops Q (o :: r) a w := by
  refine ⟨hw, ?_⟩
  unfold Oper.wp
  rw [hrun]
  exact ⟨v, rfl, h⟩
theorem addL_has {N : Int} {k : ByteArray} : ∀ (l : List Pr) (ch : ByteArray → List Ver), addL ch N l k ≠ [] → ch k ≠ [] ∨ k ∈ l.map (·.1)
  | [], _, h => .inl h
  | p :: l, ch, h => by
    rcases addL_has l (add1 ch N p) h with h | h
    · unfold add1 at h
      split at h
      · rename_i hk
        exact .inr (by simp [hk])
      · exact .inl h
    · exact .inr (by simp only [List.map_cons, List.mem_cons]; exact .inr h)
theorem inst_has {s : SP} {N : Int} {l : List Pr} {k : ByteArray} (h : (instP s N l).ch k ≠ []) : s.ch k ≠ [] ∨ instOk s N l = true ∧ k ∈ l.map (·.1) := by
  unfold instP at h
  split at h
  · rename_i hq
    rcases addL_has l s.ch h with h | h
    · exact .inl h
    · exact .inr ⟨hq, h⟩
  · exact .inl h
theorem nodup_le : ∀ {l l' : List ByteArray}, l.Nodup → (∀ k ∈ l, k ∈ l') → l.length ≤ l'.length
  | [], _, _, _ => Nat.zero_le _
  | k :: l, l', h, hs => by
    have hk := hs k (by simp)
    have ih := nodup_le (l := l) (l' := l'.filter fun x => decide (x ≠ k)) (List.Pairwise.of_cons h) (fun x hx => by
      rw [List.mem_filter, decide_eq_true_eq]
      exact ⟨hs x (by simp [hx]), fun e => List.rel_of_pairwise_cons h hx e.symm⟩)
    have : (l'.filter fun x => decide (x ≠ k)).length < l'.length := by
      rw [List.length_filter_lt_length_iff_exists]
      exact ⟨k, hk, by simp⟩
    simp only [List.length_cons]
    omega
theorem srt_nodup {l : List ByteArray} (h : Srt l) : l.Nodup := h.imp fun h => lt_ne h
theorem good_size : ∀ {l : List Pr} {last : ByteArray}, goodP last l = true → ∀ p ∈ l, p.1.size ≤ 64
  | [], _, _, p, hp => by cases hp
  | q :: l, last, h, p, hp => by
    rw [goodP, Bool.and_eq_true] at h
    rcases List.mem_cons.1 hp with rfl | hp
    · have h1 := h.1
      unfold pOk at h1
      simp only [Bool.and_eq_true, decide_eq_true_eq] at h1
      exact h1.1.1.2
    · exact good_size h.2 p hp
theorem instP_no {s : SP} {N : Int} {l : List Pr} (h : instOk s N l = false) : instP s N l = s := by
  unfold instP
  rw [h]
  rfl
/-- The keys that were written, and the store. -/
def KI (s : SP) (Ks : List ByteArray) : Prop := (∀ k, s.ch k ≠ [] → k ∈ Ks) ∧ ∀ k ∈ Ks, k.size ≤ 64
theorem ki0 : KI sp0 [] := ⟨fun k h => absurd rfl h, fun k h => by cases h⟩
theorem KI.install {s : SP} {Ks : List ByteArray} (h : KI s Ks) {N : Int} {l : List Pr} (hq : instOk s N l = true) : KI (instP s N l) (Ks ++ l.map (·.1)) := by
  refine ⟨fun k hk => ?_, fun k hk => ?_⟩
  · rcases inst_has hk with h1 | h1
    · exact List.mem_append_left _ (h.1 k h1)
    · exact List.mem_append_right _ h1.2
  · rcases List.mem_append.1 hk with hk | hk
    · exact h.2 k hk
    · obtain ⟨p, hp, rfl⟩ := List.mem_map.1 hk
      unfold instOk at hq
      rw [Bool.and_eq_true] at hq
      exact good_size hq.1 p hp
theorem KI.len {s : SP} {Ks ks : List ByteArray} (h : KI s Ks) (hi : Inv s ks) : ks.length ≤ Ks.length := nodup_le (srt_nodup hi.srt) fun k hk => h.1 k ((hi.mem k).1 hk)
theorem scan_in {s : SP} {ks : List ByteArray} {a b : ByteArray} {n : Int} {p : Pr} (h : p ∈ scanL s ks a b n) : p.1 ∈ ks ∧ inr a b p.1 = true ∧ (getP (s.ch p.1) n).2 = true ∧ (getP (s.ch p.1) n).1.2.1 = p.2.1 ∧ p.2.2 = false := by
  unfold scanL at h
  rw [List.mem_filterMap] at h
  obtain ⟨k, hk, h1⟩ := h
  rw [List.mem_filter] at hk
  unfold scan1 at h1
  split at h1
  · rename_i hq
    cases h1
    exact ⟨hk.1, hk.2, hq, rfl, rfl⟩
  · cases h1
theorem scan_has {s : SP} {ks : List ByteArray} (hi : Inv s ks) {a b k : ByteArray} {n : Int} (h1 : inr a b k = true) (h2 : (getP (s.ch k) n).2 = true) : ∃ p ∈ scanL s ks a b n, p.1 = k := by
  have hs : scan1 s n k = some (k, (getP (s.ch k) n).1.2.1, false) := by unfold scan1; rw [if_pos h2]
  refine ⟨(k, (getP (s.ch k) n).1.2.1, false), ?_, rfl⟩
  unfold scanL
  rw [List.mem_filterMap]
  exact ⟨k, List.mem_filter.2 ⟨scan1_mem hi (by rw [hs]; simp), h1⟩, hs⟩
theorem scan_srt {s : SP} {n : Int} : ∀ {l : List ByteArray}, Srt l → Srt ((l.filterMap (scan1 s n)).map (·.1))
  | [], _ => List.Pairwise.nil
  | k :: l, h => by
    have ih := scan_srt (s := s) (n := n) (List.Pairwise.of_cons h)
    rw [List.filterMap_cons]
    cases hq : scan1 s n k with
    | none => exact ih
    | some p =>
      have hp : p.1 = k := by
        unfold scan1 at hq
        split at hq
        · cases hq
          rfl
        · cases hq
      rw [List.map_cons]
      refine List.Pairwise.cons (fun x hx => ?_) ih
      rw [List.mem_map] at hx
      obtain ⟨q, hq1, rfl⟩ := hx
      rw [List.mem_filterMap] at hq1
      obtain ⟨k', hk', h3⟩ := hq1
      have e : q.1 = k' := by
        unfold scan1 at h3
        split at h3
        · cases h3
          rfl
        · cases h3
      rw [hp, e]
      exact List.rel_of_pairwise_cons h hk'
theorem scan_rise {s : SP} {ks : List ByteArray} (hi : Inv s ks) {a b : ByteArray} {n : Int} {i : Nat} (h : i + 1 < (scanL s ks a b n).length) : lt (scanL s ks a b n)[i].1 (scanL s ks a b n)[i + 1].1 = true := by
  have h1 : Srt ((scanL s ks a b n).map (·.1)) := scan_srt (hi.srt.filter _)
  have := List.pairwise_iff_getElem.1 h1 i (i + 1) (by simp; omega) (by simpa using h) (by omega)
  simpa using this
theorem scan_len {s : SP} {ks : List ByteArray} {a b : ByteArray} {n : Int} : (scanL s ks a b n).length ≤ ks.length :=
  Nat.le_trans (List.length_filterMap_le _ _) (List.length_filter_le _ _)
theorem getS_yes {s : SP} {k : ByteArray} {n : Int} (h1 : s.floor ≤ n) (h2 : n ≤ s.last) (h : (getP (s.ch k) n).2 = true) : getS s k n = ((getP (s.ch k) n).1.2.1, 0) := by
  unfold getS
  rw [if_pos (may0 h1 h2), if_pos h]
theorem getS_no {s : SP} {k : ByteArray} {n : Int} (h1 : s.floor ≤ n) (h2 : n ≤ s.last) (h : (getP (s.ch k) n).2 = false) : getS s k n = (em, 8) := by
  unfold getS
  rw [if_pos (may0 h1 h2), h]
  rfl
def hasK (l : List Pr) (k : ByteArray) : Bool := l.any fun p => decide (p.1 = k)
theorem hasK_eq {s : SP} {ks : List ByteArray} (hi : Inv s ks) {a b k : ByteArray} {n : Int} : hasK (scanL s ks a b n) k = ((getP (s.ch k) n).2 && !lt k a && lt k b) := by
  rw [Bool.eq_iff_iff]
  unfold hasK
  rw [List.any_eq_true]
  simp only [decide_eq_true_eq, Bool.and_eq_true, and_assoc]
  constructor
  · rintro ⟨p, hp, rfl⟩
    obtain ⟨-, h2, h3, -⟩ := scan_in hp
    unfold inr at h2
    rw [Bool.and_eq_true] at h2
    exact ⟨h3, h2⟩
  · rintro ⟨h1, h2⟩
    exact scan_has hi (by unfold inr; rw [Bool.and_eq_true]; exact h2) h1
theorem hasK_snoc {l : List Pr} {i : Nat} (h : i < l.length) (k : ByteArray) : hasK (l.take (i + 1)) k = (hasK (l.take i) k || decide (l[i].1 = k)) := by
  unfold hasK
  rw [List.take_succ_eq_append_getElem h, List.any_append]
  simp
end Go.Proofs.Ytgaoionnfkbhaaa
