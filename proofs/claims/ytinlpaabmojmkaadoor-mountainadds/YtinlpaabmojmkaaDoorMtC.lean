/-
  Rows of elements of any make: made, copied into; mountain.behind: what the call does.
-/
import Derived.Test.YtinlpaabmojmkaaDoorMtH
namespace Go.Proofs.YtinlpaabmojmkaaDoor
open Go.RowKit
section
variable {α : Type} {E : Enc α}
/-- make of elements: new memory. -/
theorem wpList_make_G {P : Program} (w : World) {ops : Array Oper} {rest : List Oper} {o : Oper} {a : Act} {Q : Exit → Act → World → Prop}
    (hg : o.guard = none) (l c : Operand) (t e : TypeId) (hop : o.op = Op.makeSlice t l c)
    (i : TypeInfo) (z : Value) (h1 : P.underlying t = some (.slice e)) (h2 : P.info? e = some i) (h3 : i.zero = some z) (h4 : i.size = E.n)
    (kl kc : IntKind) (L C : Int) (n m : Nat) (hl : a.eval l = .int kl L) (hc : a.eval c = .int kc C) (hL : L = (n : Int)) (hC : C = (m : Int)) (hnm : n ≤ m) (b2 : (i.bytes : Int) * (m : Int) ≤ 281474976710656) (b3 : m ≤ 281474976710656)
    (hK : ∀ cs : List Value, cs.length = m * E.n → wpList P ops Q rest (a.put o.dst (.slice (some ⟨w.heap.size, 0, none⟩) n m)) (w.alloc (.cells cs.toArray e))) :
    wpList P ops Q (o :: rest) a w := by
  refine wpList_plain hg fun K hK' => ?_
  subst hL
  subst hC
  have hrun := run_make (P := P) w t e i _ h1 h2 h3 kl kc n m (by omega) (by omega) b2 (by omega)
  have hk := hK (madeCells z.cells ((m : Int).toNat * i.size)).toList (by rw [Array.length_toList, size_madeCells, Int.toNat_natCast, h4])
  simp only [Int.toNat_natCast] at hrun hk
  unfold Oper.wp
  simp only [execOp, hop, hl, hc, hrun, Result.andThen, Sem.run_bind, Sem.run_pure]
  exact hK' _ _ hk
/-- copy of elements into a block. -/
theorem wpList_copy_G {P : Program} {w : World} {ops : Array Oper} {rest : List Oper} {o : Oper} {a : Act} {Q : Exit → Act → World → Prop} (hgd : o.guard = none) (d s : Operand) (dT sT : TypeId)
    (ho : o.op = .call { callee := .builtin .copy, args := #[d, s], argTypes := #[dT, sT] }) (elem : TypeId) (hu : P.underlying dT = some (.slice elem)) (hsz : (P.info? elem).map (·.size) = some E.n)
    (b off dLen dCap : Nat) (v : Value) (L : List α) (hd : a.eval d = .slice (some ⟨b, off, none⟩) dLen dCap) (hs : a.eval s = v) (hr : RdG E w v L) (hl : L.length ≤ dLen)
    (T : TypeId) (cs : List Value) (hB : Blk w b T cs) (hfit : off + L.length * E.n ≤ cs.length)
    (h : ∀ w', Blk w' b T (over cs off (E.cs L)) → But b w w' → wpList P ops Q rest (a.put o.dst (goInt L.length)) w') : wpList P ops Q (o :: rest) a w := by
  obtain ⟨ad, cap, rfl, h1, h2, h3, h4⟩ := hr
  have hc3 := Enc.cs_length (E := E) L
  have hrun : (Builtin.copy_ #[dT, sT] o.type #[.slice (some ⟨b, off, none⟩) dLen dCap, .slice ad L.length cap]).run P w = .ok (goInt L.length) (w.setCells b off (E.cs L)) := by
    have hmin : Nat.min L.length dLen = L.length := Nat.min_eq_left hl
    cases hq : P.info? elem with
    | none => simp [hq] at hsz
    | some i =>
      have hi : i.size = E.n := by simpa [hq] using hsz
      have hst := run_storeCells_cells (P := P) b off (E.cs L) 0 w (fun j hj => by rw [hB.cell (v := cs[off + 0 + j]'(by omega)) (by simp)]; rfl) (fun j _ => hB.frozen _) (Enc.cs_one L)
      by_cases hp : 0 < L.length
      · obtain ⟨c, of, rfl, hlt, hc⟩ := h4 hp
        have hld := run_loadCells_list (P := P) w ⟨c, of, none⟩ (E.cs L) (fun j u hj => by rw [Addr.add_mid]; exact hc j u hj)
        rw [hc3] at hld
        simp [Builtin.copy_, run_underlying hu, Builtin.lenOf, Builtin.firstCells, sizeOf, typeInfo, hq, hi, hmin, hld, hst]
      · have hL : L = [] := List.eq_nil_of_length_eq_zero (by omega)
        subst hL
        have hld : ∀ (x : Addr), (loadCells x 0).run P w = .ok #[] w := fun x => by simpa using run_loadCells_list (P := P) w x [] (by simp)
        cases ad <;> simp [Builtin.copy_, run_underlying hu, Builtin.lenOf, Builtin.firstCells, sizeOf, typeInfo, hq, storeCells, hld, World.setCells, Enc.cs_nil]
  refine wpList_plain hgd fun K hK => ?_
  unfold Oper.wp
  simp [execOp, ho, resolve, invoke, builtin, hd, hs, hrun, Result.andThen]
  exact hK _ _ (h _ (Blk.over (E.cs L) hB off (by omega)) (But.setCells b _ off w))
theorem over_two (cs : List Value) (L M : List α) (hl : cs.length = (L.length + M.length) * E.n) (off : Nat) (ho : off = L.length * E.n ∨ M = []) (hoff : off ≤ cs.length) : over (over cs 0 (E.cs L)) off (E.cs M) = E.cs (L ++ M) := by
  have h1 := Enc.cs_length (E := E) L
  have h2 := Enc.cs_length (E := E) M
  rw [Nat.add_mul] at hl
  rcases ho with rfl | rfl
  · unfold over
    rw [Enc.cs_append]
    simp only [List.take_zero, List.nil_append, Nat.zero_add]
    rw [← h1, List.take_left, List.drop_append, List.drop_of_length_le (l := E.cs L) (by omega), List.drop_of_length_le (l := cs.drop _) (by rw [List.length_drop]; omega)]
    simp
  · simp only [Enc.cs_nil, List.append_nil]
    have hz : cs.length = (E.cs L).length := by simp at hl; omega
    rw [over_all cs (E.cs L) hz]
    simp [over]
end
theorem Tryd.infoH : (Tryd.prog.info? 30).map (fun i => (i.zero.isSome, i.size, i.bytes)) = some (true, HE.n, 32) := by kernel_rfl
set_option maxHeartbeats 2000000 in
set_option maxRecDepth 100000 in
theorem behind_any (v u : Value) (L M : List Hs) (w : World) (hv : RdG HE w v L) (hu : RdG HE w u M) (hb : L.length + M.length ≤ 1000000) :
    Calls Tryd.prog 26 #[v, u] w fun e w' => ∃ x, e = .returned x ∧ OwnG HE w' w.heap.size 30 x (L ++ M) ∧ Below w.heap.size w w' := by
  obtain ⟨i, hi, hz, hsz, hby⟩ : ∃ i, Tryd.prog.info? 30 = some i ∧ i.zero.isSome = true ∧ i.size = HE.n ∧ i.bytes = 32 := by
    have h := Tryd.infoH
    cases hq : Tryd.prog.info? 30 with
    | none => simp [hq] at h
    | some i => simp [hq] at h; exact ⟨i, rfl, h.1, h.2.1, h.2.2⟩
  obtain ⟨z, hz⟩ := Option.isSome_iff_exists.1 hz
  have HI := hide (And.intro hi (And.intro hz (And.intro hsz hby)))
  clear hi hz hsz hby
  have RV := hide hv
  have RU := hide hu
  obtain ⟨av, cv, rfl⟩ := hv.slice
  obtain ⟨au, cu, rfl⟩ := hu.slice
  clear hv hu
  obtain ⟨n, HN⟩ : ∃ n, Hid (L.length = n) := ⟨_, rfl⟩
  obtain ⟨m, HM⟩ : ∃ m, Hid (M.length = m) := ⟨_, rfl⟩
  rw [HN.out] at RV hb ⊢
  rw [HM.out] at RU hb ⊢
  obtain ⟨N, HNw⟩ : ∃ N, Hid (w.heap.size = N) := ⟨_, rfl⟩
  obtain ⟨a2, hs2, ha2, -⟩ := slice_G (E := HE) (P := Tryd.prog) Tryd.underlying22 Tryd.size30 (some ⟨N, 0, none⟩) (n + m) (n + m) n (by omega) (by omega)
  obtain ⟨off, HA2, HOFF⟩ : ∃ off : Nat, Hid (a2 = some ⟨N, off, none⟩) ∧ Hid ((off = n * HE.n ∨ m = 0) ∧ off ≤ n * HE.n) := by
    by_cases hm : n + m = n
    · exact ⟨0, (show _ = _ by rw [ha2, if_pos hm]), (show _ ∧ _ from ⟨.inr (by omega), Nat.zero_le _⟩)⟩
    · refine ⟨n * HE.n, (show _ = _ by rw [ha2, if_neg hm]; simp [Addr.add_lit]), (show _ ∧ _ from ⟨.inl rfl, Nat.le_refl _⟩)⟩
  rw [HA2.out] at hs2
  clear ha2 HA2 a2
  have e1 : n + m - n = m := by omega
  rw [e1] at hs2
  go_enter Tryd.func26, Tryd.ntmps26
  go_upto_region 2 with (first
    | (at_make; refine wpList_make_G (E := HE) _ rfl _ _ 22 30 rfl i z Tryd.underlying22 HI.out.1 HI.out.2.1 HI.out.2.2.1 _ _ _ _ (n + m) (n + m) rfl rfl (by go_num) (by go_num) (Nat.le_refl _) (by rw [HI.out.2.2.2]; omega) (by omega) ?_; intro cs hcs; rw [HNw.out])
    | fail)
  obtain ⟨w0, hw0⟩ : ∃ x, x = w.alloc (.cells cs.toArray 30 (0, 0)) := ⟨_, rfl⟩
  rw [← hw0]
  have B0 : Hid (Blk w0 N 30 cs) := (show Blk _ _ _ _ by rw [hw0, ← HNw.out]; exact Blk.new w 30 cs)
  have L0 : Hid (Below N w w0) := (show Below _ _ _ by rw [hw0]; exact (Below.refl _ _).alloc (by rw [HNw.out]; exact Nat.le_refl _) _)
  have R0 : Hid (RdG HE w0 (.slice av n cv) L) := RV.out.kept (by rw [HNw.out]; exact L0.out)
  have HCS := hide hcs
  clear hw0 hcs
  have hoV : Hid (∀ b, InB (.slice av n cv) b → b ≠ N) := (show _ from fun b hb e => by have := RV.out.inB_lt hb; rw [HNw.out] at this; omega)
  have hoU : Hid (∀ b, InB (.slice au m cu) b → b ≠ N) := (show _ from fun b hb e => by have := RU.out.inB_lt hb; rw [HNw.out] at this; omega)
  go_upto_region 3 with (first
    | (refine wpList_copy_G (E := HE) rfl (.tmp 12) (.tmp 13) 22 22 rfl 30 Tryd.underlying22 Tryd.size30 N 0 (n + m) (n + m) _ L rfl rfl R0.out (by rw [HN.out]; omega) 30 cs B0.out (by rw [HN.out, HCS.out, Nat.add_mul]; omega) ?_; intro w1 hb1 hu1)
    | fail)
  have B1 := hide hb1
  have L1 : Hid (Below N w w1) := L0.out.trans (hu1.below (Nat.le_refl _) (Nat.le_of_lt B0.out.lt))
  have R1 : Hid (RdG HE w1 (.slice au m cu) M) := (RU.out.kept (by rw [HNw.out]; exact L0.out)).chg (F := fun b => b = N) (Chg.of_but hu1 rfl) (fun b hb => hoU.out b hb)
  clear hb1 hu1
  go_wp2_with (first
    | (refine wpList_copy_G (E := HE) rfl (.tmp 18) (.tmp 19) 22 22 rfl 30 Tryd.underlying22 Tryd.size30 N off m m _ M rfl rfl R1.out (by rw [HM.out]; exact Nat.le_refl _) 30 _ B1.out (by rw [over_length (by rw [Enc.cs_length, HN.out, HCS.out, Nat.add_mul]; omega), HM.out, HCS.out, Nat.add_mul]; have := HOFF.out; omega) ?_; intro w2 hb2 hu2)
    | fail)
  go_ret
  have h0 := over_two (E := HE) cs L M (by rw [HN.out, HM.out]; exact HCS.out) off (by rw [HN.out]; rcases HOFF.out.1 with h | h; exact .inl h; exact .inr (List.eq_nil_of_length_eq_zero (by rw [HM.out]; exact h))) (by rw [HCS.out, Nat.add_mul]; have := HOFF.out; omega)
  rw [h0] at hb2
  have hlen : (L ++ M).length = n + m := by rw [List.length_append, HN.out, HM.out]
  refine ⟨_, rfl, ?_, by rw [HNw.out]; exact L1.out.trans (hu2.below (Nat.le_refl _) (Nat.le_of_lt B1.out.lt))⟩
  have := OwnG.of_blk (E := HE) (B := w.heap.size) (L := L ++ M) (cap := n + m) hb2 (by rw [HNw.out]; exact Nat.le_refl _) (by rw [List.take_of_length_le]; rw [Enc.cs_length]; exact Nat.le_refl _) (by rw [Enc.cs_length, hlen]) (by omega) (by unfold maxLen; omega)
  rw [hlen] at this
  exact this
#print axioms behind_any
end Go.Proofs.YtinlpaabmojmkaaDoor
