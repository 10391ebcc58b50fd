/-
  The law CertifyWeaker: what the call does.
-/
import Derived.Test.YthniaoacanabdaaCtU
import Derived.Test.YthniaoacanabdaaCtN
namespace Go.Proofs.Ythniaoacanabdaa
open Go.RowKit
theorem clash_one (r o : Rc) : clashP r [o] = if hitP (spW r) o = true then 0 else -1 := by simp [clashP, fstI]
theorem hit_sym (r o : Rc) : hitP (spW r) o = hitP (spW o) r := by
  rw [hit_clash, hit_clash]
  unfold wroteP
  rw [any_swap (fun (p : Pr) (q : Pr) => q.1.toList == p.1.toList)]
  refine congrArg (List.any o.ws) (funext fun q => congrArg (List.any r.ws) (funext fun p => ?_))
  exact Bool.beq_comm
theorem mod_le (u n : Nat) : u % (n + 1) ≤ n := Nat.le_of_lt_succ (Nat.mod_lt u (Nat.succ_pos n))
theorem mod_int (u n : Nat) : (u : Int) % ((n : Int) + 1) = ((u % (n + 1) : Nat) : Int) := by simp
theorem mod_tint (u n : Nat) : (u : Int).tmod ((n : Int) + 1) = ((u % (n + 1) : Nat) : Int) := by
  rw [Int.tmod_eq_emod_of_nonneg (by omega)]
  exact mod_int u n
theorem int_le {a b c : Nat} (h : a ≤ b) (k : b ≤ c) : (a : Int) ≤ (c : Int) := by omega
theorem wrap_k {k n : Nat} (h : k ≤ n) (hn : n ≤ 100) : wrap64 (k : Int) = (k : Int) := by unfold wrap64; omega
theorem wrap_i {k n : Nat} (h : k ≤ n) (hn : n ≤ 100) : IntKind.i64.wrap (k : Int) = (k : Int) := wr64 (by omega) (by omega)
theorem wrap_s {n : Nat} (hn : n ≤ 100) : IntKind.i64.wrap ((n : Int) + 1) = (n : Int) + 1 := wr64 (by omega) (by omega)
theorem wrap_u {n : Nat} (hn : n ≤ 100) : IntKind.u64.wrap ((n : Int) + 1) = (n : Int) + 1 := by rw [IntKind.wrap_u64]; omega
theorem nz_b (n : Nat) : ((n : Int) + 1 == 0) = false := by simp; omega
theorem nz_p (n : Nat) : ¬ (n : Int) + 1 = 0 := by omega
/-- A record that is strict, or not; one with fewer reads and writes. -/
def stR (r : Rc) (b : Bool) : Rc := ⟨r.ses, r.snap, b, r.rs, r.ws, r.ra, r.rc, r.wa, r.wc⟩
def fwR (r : Rc) (k1 k2 : Nat) : Rc := ⟨r.ses, r.snap, true, r.rs.take k2, r.ws.take k1, r.ra, r.rc, r.wa, r.wc⟩
theorem stR_cells (r : Rc) (b : Bool) : (RC r).set 2 (.bool b) = RC (stR r b) := rfl
theorem stR_ok {w : World} {r : Rc} (h : ROk w r) (b : Bool) : ROk w (stR r b) := ⟨h.rs, h.ws⟩
theorem stR_kok {r : Rc} (h : KOk r) (b : Bool) : KOk (stR r b) := ⟨h.wl, h.rl, h.wk, h.rk⟩
theorem fwR_kok {r : Rc} (h : KOk r) (k1 k2 : Nat) : KOk (fwR r k1 k2) :=
  ⟨Nat.le_trans (List.take_sublist _ _).length_le h.wl, Nat.le_trans (List.take_sublist _ _).length_le h.rl, fun p hp => h.wk p (List.mem_of_mem_take hp), fun x hx => h.rk x (List.mem_of_mem_take hx)⟩
theorem fwR_ok {w : World} {r : Rc} (h : ROk w r) {k1 k2 : Nat} (h1 : k1 ≤ r.ws.length) (h2 : k2 ≤ r.rs.length) : ROk w (fwR r k1 k2) := by
  have e1 : (r.ws.take k1).length = k1 := by rw [List.length_take]; omega
  have e2 : (r.rs.take k2).length = k2 := by rw [List.length_take]; omega
  have g1 := (slice_G_to (E := PE) (P := Try.prog) Try.underlying23 (by kernel_rfl) r.wa r.ws.length r.wc k1 h1 h.ws.cap).2 _ _ h.ws
  have g2 := (slice_G_to (E := XE) (P := Try.prog) Try.underlying22 (by kernel_rfl) r.ra r.rs.length r.rc k2 h2 h.rs.rd.cap).2 _ _ h.rs.rd
  refine ⟨⟨?_, fun x hx => h.rs.ps x (List.mem_of_mem_take hx)⟩, ?_⟩
  · show RdG XE w (.slice r.ra (r.rs.take k2).length r.rc) (r.rs.take k2)
    rw [e2]
    exact g2
  · show RdG PE w (.slice r.wa (r.ws.take k1).length r.wc) (r.ws.take k1)
    rw [e1]
    exact g1
theorem any_take {α : Type} {f : α → Bool} {l : List α} {k : Nat} (h : l.any f = false) : (l.take k).any f = false := by
  rw [Bool.eq_false_iff] at h ⊢
  intro h2
  obtain ⟨x, hx, h3⟩ := List.any_eq_true.1 h2
  exact h (List.any_eq_true.2 ⟨x, List.mem_of_mem_take hx, h3⟩)
theorem weak (r o : Rc) (k1 k2 : Nat) (h : mayP (stR r true) [o] = false) : mayP (stR r false) [o] = false ∧ mayP (fwR r k1 k2) [o] = false := by
  rw [may_any] at h
  simp only [List.any_cons, List.any_nil, Bool.or_false, Bool.or_eq_false_iff, Bool.and_eq_false_iff] at h
  obtain ⟨h1, h2⟩ := h
  have h2' : hitP (spR (stR r true)) o = false := by
    rcases h2 with h | h
    · cases h
    · exact h
  have g1 : hitP (spW (stR r false)) o = false := h1
  have g3 : hitP (spW (fwR r k1 k2)) o = false := by
    rw [hit_clash] at h1 ⊢
    exact any_take h1
  have g4 : hitP (spR (fwR r k1 k2)) o = false := by
    rw [hit_stale] at h2' ⊢
    exact any_take h2'
  have g5 : (stR r false).st = false := rfl
  rw [may_any, may_any]
  refine ⟨?_, ?_⟩
  · simp only [List.any_cons, List.any_nil, Bool.or_false, g1, g5]
    rfl
  · simp only [List.any_cons, List.any_nil, Bool.or_false, g3, g4]
    cases (fwR r k1 k2).st <;> rfl
theorem rdR_two {w : World} {r o : Rc} (h1 : ROk w r) (h2 : ROk w o) : RdR9 (w.alloc (.cells (RE.c r ++ RE.c o).toArray 25 (0, 0))) (.slice (some ⟨w.heap.size, 0, none⟩) 2 2) [r, o] :=
  ⟨(ownE_two (E := RE) w w.heap.size 25 r o (Nat.le_refl _)).rd, fun x hx => by
    simp only [List.mem_cons, List.not_mem_nil, or_false] at hx
    rcases hx with rfl | rfl
    · exact h1.kept ((Below.refl _ _).alloc (Nat.le_refl _) _)
    · exact h2.kept ((Below.refl _ _).alloc (Nat.le_refl _) _)⟩
theorem wpList_build2R {ops : Array Oper} {rest : List Oper} {o : Oper} {a : Act} {w : World} {Q : Exit → Act → World → Prop} (hgd : o.guard = none) (x y : Operand) (ho : o.op = .buildSlice 34 2 #[(0, x), (1, y)]) (p q : Rc) (hx : a.eval x = .agg (RC p).toArray) (hy : a.eval y = .agg (RC q).toArray)
    (h : wpList Try.prog ops Q rest (a.put o.dst (.slice (some ⟨w.heap.size, 0, none⟩) 2 2)) (w.alloc (.cells (RC p ++ RC q).toArray 25 (0, 0)))) : wpList Try.prog ops Q (o :: rest) a w := by
  refine wpList_run hgd _ ?_ h
  simp only [execOp, ho, hx, hy, List.map_toArray, List.map_cons, List.map_nil, Sem.run_bind, Sem.run_pure]
  exact congrArg (fun r => Result.andThen r _) (build_rec2 p q w)
/-- A bool into a cell. -/
theorem wpList_store_bo {ops : Array Oper} {rest : List Oper} {o : Oper} {a : Act} {w : World} {Q : Exit → Act → World → Prop} (hgd : o.guard = none) (x y : Operand) (ho : o.op = .store 4 x y) (b j : Nat) (T : TypeId) (cs : List Value) (p : Bool)
    (hx : a.eval x = .pointer (some ⟨b, j, none⟩)) (hy : a.eval y = .bool p) (hB : Blk w b T cs) (hj : j < cs.length) (h : ∀ w', Blk w' b T (cs.set j (.bool p)) → But b w w' → wpList Try.prog ops Q rest (a.put o.dst undef) w') : wpList Try.prog ops Q (o :: rest) a w := by
  have hc := hB.cell (j := j) (v := cs[j]) (List.getElem?_eq_getElem hj)
  have hf := hB.frozen j
  have hrun : (execOp a.eval o).run Try.prog w = .ok .skip (w.setCell ⟨b, j, none⟩ (.bool p)) := by
    simp only [execOp, ho, hx, hy]
    go_simp
  refine wpList_plain hgd fun K hK => ?_
  unfold Oper.wp
  rw [hrun]
  exact hK _ _ (h _ (hB.set j (.bool p)) (But.setCell b w j _))
set_option maxHeartbeats 20000000 in
set_option maxRecDepth 100000 in
theorem certifyWeaker_any {w : World} {r : Rc} (hr : ROk w r) (hbr : RB 140737488351232 r) {o : Rc} (ho : ROk w o) (hbo : RB 140737488351232 o) (u : Nat) : Calls Try.prog 6 #[.agg (RC r).toArray, .agg (RC o).toArray, .int .u64 (u : Int)] w fun e w' => e = .returned (.bool true) ∧ Below w.heap.size w w' := by
  obtain ⟨N, HN⟩ : ∃ N, Hid (w.heap.size = N) := ⟨_, rfl⟩
  obtain ⟨w1, hw1⟩ : ∃ y, y = (w.alloc (.cells (RC r).toArray 25 (0, 0))).alloc (.cells (RC o).toArray 25 (0, 0)) := ⟨_, rfl⟩
  obtain ⟨b1, bo, l1⟩ := newB2 HN hw1
  have HW := hide hw1
  have RO := hide (hr.kept l1.out)
  have OO := hide (ho.kept l1.out)
  obtain ⟨N1, HN1⟩ : ∃ N, Hid (w1.heap.size = N) := ⟨_, rfl⟩
  obtain ⟨w2, hw2⟩ : ∃ y, y = w1.alloc (.cells (RC r ++ RC o).toArray 25 (0, 0)) := ⟨_, rfl⟩
  obtain ⟨b2, l2⟩ := newB HN1 hw2
  have HW2 := hide hw2
  have R2 : Hid (RdR9 w2 (.slice (some ⟨N1, 0, none⟩) 2 2) [r, o]) := (show RdR9 _ _ _ by rw [hw2, ← HN1.out]; exact rdR_two RO.out OO.out)
  have CG := hide (lightL_any R2.out (fun y hy => by
    simp only [List.mem_cons, List.not_mem_nil, or_false] at hy
    rcases hy with rfl | rfl
    · exact hbr
    · exact hbo))
  have HBR := hide hbr
  have HBO := hide hbo
  have hN1 : N + 1 < w1.heap.size := bo.out.lt
  clear hr ho hw1 hw2 hbr hbo
  go_enter Try.func6, Try.ntmps6
  go_upto_region 1 with fail
  change Code.wp _ _ _ _ ((w.alloc (.cells (RC r).toArray 25 (0, 0))).alloc (.cells (RC o).toArray 25 (0, 0)))
  rw [← HW.out, HN.out]
  go_wp2_with (first
    | (refine wpList_load_mid rfl 25 _ rfl N 0 rfl (RC r) _ b1.out.range0 Try.underlying25 rfl Try.size25 ?_)
    | (refine wpList_load_mid rfl 25 _ rfl (N + 1) 0 rfl (RC o) _ bo.out.range0 Try.underlying25 rfl Try.size25 ?_)
    | (refine wpList_build2R rfl _ _ rfl r o rfl rfl ?_; rw [← HW2.out, HN1.out])
    | fail)
  refine CG.out.mono ?_
  rintro e w10 ⟨hpost, hb10⟩
  have L10 : Hid (Below w1.heap.size w1 w10) := (show Below _ _ _ from l2.out.trans (hb10.mono l2.out.size))
  clear hb10 CG
  rcases hpost with rfl | ⟨rfl, hl40, hlt⟩
  · have CV := hide (lives_any w10)
    go_wp2_with fail
    refine CV.out.mono ?_
    rintro e w11 ⟨rfl, hb11⟩
    have L11 : Hid (Below w.heap.size w w11) := (show Below _ _ _ from l1.out.trans ((L10.out.trans (hb11.mono L10.out.size)).mono l1.out.size))
    clear hb11 CV
    go_wp2_with fail
    go_ret
    exact ⟨rfl, L11.out⟩
  · have KO := hide (kok_of HBR.out (by omega) (hlt r (List.mem_cons_self ..)))
    have KOO := hide (kok_of HBO.out (by omega) (hlt o (List.mem_cons_of_mem _ (List.mem_cons_self ..))))
    have LT := hide (hlt r (List.mem_cons_self ..))
    have B10 := hide (b1.out.kept L10.out)
    have O10 := hide (bo.out.kept L10.out)
    have hz := zeroR
    clear hlt hl40
    go_upto_region 3 with fail
    have hN10 : N + 1 < w10.heap.size := Nat.lt_of_lt_of_le hN1 L10.out.size
    refine wp_region_cells Try.mixed (KS (fun i_ => match i_ with | 0 | 1 => .val (.agg (RC r).toArray) | _ => .free)) [⟨2, 7, 4, 25, RC zr, RC r⟩, ⟨3, 8, 5, 25, RC zr, RC r⟩] 77 rfl (by decide +kernel) (KS_mono_val _ (fun i => by split <;> exact fun _ _ _ h => h)) (by intro c hc c' hc' e; simp only [List.mem_cons, List.not_mem_nil, or_false] at hc hc'; rcases hc with rfl | rfl <;> rcases hc' with rfl | rfl <;> first | rfl | (simp at e)) (by intro c hc c' hc' e; simp only [List.mem_cons, List.not_mem_nil, or_false] at hc hc'; rcases hc with rfl | rfl <;> rcases hc' with rfl | rfl <;> first | rfl | (simp at e)) (by intro c hc; simp only [List.mem_cons, List.not_mem_nil, or_false] at hc; rcases hc with rfl | rfl <;> rfl) ?_ ?_
    · refine AllFrom.cons ?_ (AllFrom.cons ?_ (AllFrom.cons ?_ (AllFrom.cons ?_ (AllFrom.cons ?_ (AllFrom.cons ?_ AllFrom.nil)))))
      · skip
        refine .val rfl (notI rfl) (notS rfl) (fun a' w' hb hk hd Q => ?_)
        have e3 : a'.eval (.tmp 3) = .pointer (some ⟨N, 0, none⟩) := hk.at 3 (by decide +kernel)
        exact wp_load_row 25 _ rfl _ _ e3 (RC r) _ ((B10.out.kept hb).range0) Try.underlying25 rfl Try.size25 (KS_mkv rfl rfl)
      · skip
        refine .val rfl (notI rfl) (notS rfl) (fun a' w' hb hk hd Q => ?_)
        have e3 : a'.eval (.tmp 3) = .pointer (some ⟨N, 0, none⟩) := hk.at 3 (by decide +kernel)
        exact wp_load_row 25 _ rfl _ _ e3 (RC r) _ ((B10.out.kept hb).range0) Try.underlying25 rfl Try.size25 (KS_mkv rfl rfl)
      · skip
        refine .new rfl _ (List.Mem.head _) rfl (notS rfl) rfl (fun a' w' => ?_)
        simp only [execOp]; go_simp
      · skip
        refine .new rfl _ (List.Mem.tail _ (List.Mem.head _)) rfl (notS rfl) rfl (fun a' w' => ?_)
        simp only [execOp]; go_simp
      · skip
        refine .put rfl _ (List.Mem.head _) (notI rfl) rfl rfl (.tmp 17) rfl (by kernel_rfl) (fun a' w' hb hk hd => ?_) (by rfl) (Try.size25) (RC_one _)
        have e17 : a'.eval (.tmp 17) = .agg (RC r).toArray := KS_val (hd 0 17 (by decide +kernel) (notI rfl)) rfl
        exact e17
      · skip
        refine .put rfl _ (List.Mem.tail _ (List.Mem.head _)) (notI rfl) rfl rfl (.tmp 18) rfl (by kernel_rfl) (fun a' w' hb hk hd => ?_) (by rfl) (Try.size25) (RC_one _)
        have e18 : a'.eval (.tmp 18) = .agg (RC r).toArray := KS_val (hd 1 18 (by decide +kernel) (notI rfl)) rfl
        exact e18
    intro a' w11 hsz hdf hk hall hb11 hBB
    obtain ⟨BF, hB1, hB2⟩ := hBB
    obtain ⟨E7, hl7, BS⟩ := hB1 _ (List.Mem.head _) (show (2 : Nat) < 6 by decide) (show (4 : Nat) < 6 by decide)
    obtain ⟨E8, hl8, BT⟩ := hB1 _ (List.Mem.tail _ (List.Mem.head _)) (show (3 : Nat) < 6 by decide) (show (5 : Nat) < 6 by decide)
    have hne := hB2 _ (List.Mem.head _) _ (List.Mem.tail _ (List.Mem.head _)) (show (2 : Nat) < 6 by decide) (show (3 : Nat) < 6 by decide) (show (2 : Nat) ≠ 3 by decide)
    simp only at E7 E8 BS BT hl7 hl8 hne
    clear hB1 hB2
    generalize BF 2 = es at E7 BS hl7 hne
    generalize BF 3 = et at E8 BT hl8 hne
    have e17 : a'.eval (.tmp 17) = .agg (RC r).toArray := KS_val (hall 0 _ 17 rfl (notI rfl) rfl) rfl
    have e18 : a'.eval (.tmp 18) = .agg (RC r).toArray := KS_val (hall 1 _ 18 rfl (notI rfl) rfl) rfl
    have ha := act_puts 77 rfl hsz hdf hk [17, 18, 7, 8] (by decide +kernel)
    simp only [puts, List.foldl_cons, List.foldl_nil, e17, e18, E7, E8] at ha
    simp only [Act.put, List.setIfInBounds_toArray, List.set_cons_succ, List.set_cons_zero] at ha
    clear hall hk hsz hdf e17 e18 E7 E8
    subst ha
    have BS11 := hide BS
    have BT11 := hide BT
    have L11 : Hid (Below w1.heap.size w1 w11) := (show Below _ _ _ from L10.out.trans (hb11.mono L10.out.size))
    have hes : w10.heap.size ≤ es := hl7
    have het : w10.heap.size ≤ et := hl8
    clear BS BT hb11 hl7 hl8
    go_upto_region 5 with (first
      | (refine wpList_store_bo rfl _ _ rfl es 2 25 (RC r) true rfl rfl BS11.out (by show 2 < 5; omega) ?_; intro w12 hb12 hu12; rw [stR_cells] at hb12; have BS12 := hide hb12; have BT12 := hide (BT11.out.but hu12 (fun e => hne e.symm)); have C12 : Hid (Chg (fun k => k = es) w11 w12) := (show Chg _ _ _ from Chg.of_but hu12 rfl); clear hb12 hu12)
      | (refine wpList_store_bo rfl _ _ rfl et 2 25 (RC r) false rfl rfl BT12.out (by show 2 < 5; omega) ?_; intro w13 hb13 hu13; rw [stR_cells] at hb13; have BT13 := hide hb13; have BS13 := hide (BS12.out.but hu13 hne); have C13 : Hid (Chg (fun k => k = et) w12 w13) := (show Chg _ _ _ from Chg.of_but hu13 rfl); clear hb13 hu13)
      | fail)
    obtain ⟨ef, HEF⟩ : ∃ E, Hid (w13.heap.size = E) := ⟨_, rfl⟩
    obtain ⟨w14, hw14⟩ : ∃ y, y = w13.alloc (.cells (RC (stR r true)).toArray 25 (0, 0)) := ⟨_, rfl⟩
    obtain ⟨b14, l14⟩ := newB HEF hw14
    have HW14 := hide hw14
    have hsf : es < ef := by rw [← HEF.out]; exact BS13.out.lt
    have htf : et < ef := by rw [← HEF.out]; exact BT13.out.lt
    have hef : w1.heap.size ≤ ef := by have := L10.out.size; omega
    have hnsf : es ≠ ef := by omega
    have hntf : et ≠ ef := by omega
    have BS14 := hide (BS13.out.kept l14.out)
    have BT14 := hide (BT13.out.kept l14.out)
    have L13 : Hid (Below w10.heap.size w11 w13) := (show Below _ _ _ from (C12.out.below (by have := BS11.out.lt; omega) (fun k hk e => by omega)).trans (C13.out.below (by have := BT12.out.lt; omega) (fun k hk e => by omega)))
    have LL14 : Hid (Below w1.heap.size w1 w14) := (show Below _ _ _ from (L11.out.trans (L13.out.mono L10.out.size)).trans (l14.out.mono (by have := L11.out.size; have := C12.out.size; have := C13.out.size; omega)))
    clear hw14 BS12 BT12 C12 C13 BS11 BT11
    try simp only [Act.put]
    go_upto_region 6 with (first
      | (refine wpList_load_mid rfl 25 _ rfl es 0 rfl (RC (stR r true)) _ BS13.out.range0 Try.underlying25 rfl Try.size25 ?_)
      | (refine wpList_store_new rfl 25 _ _ rfl w13 _ (RC (stR r true)).toArray _ rfl rfl rfl Try.size25 rfl (all_one (RC_one _)) ?_; rw [← HW14.out, HEF.out])
      | fail)
    try simp only [Act.put]
    obtain ⟨wl, HWL⟩ : ∃ z, Hid (r.ws.length = z) := ⟨_, rfl⟩
    obtain ⟨rl, HRL⟩ : ∃ z, Hid (r.rs.length = z) := ⟨_, rfl⟩
    have hwl : wl ≤ 100 := by rw [← HWL.out]; exact LT.out.wl
    have hrl : rl ≤ 100 := by rw [← HRL.out]; exact LT.out.rl
    obtain ⟨k1, HK1⟩ : ∃ k, Hid (u % (wl + 1) = k) := ⟨_, rfl⟩
    obtain ⟨k2, HK2⟩ : ∃ k, Hid (u % (rl + 1) = k) := ⟨_, rfl⟩
    have hk1 : k1 ≤ wl := HK1.out ▸ mod_le u wl
    have hk2 : k2 ≤ rl := HK2.out ▸ mod_le u rl
    have hw1 := wrap_k hk1 hwl
    have hw2 := wrap_k hk2 hrl
    have hi1 := wrap_i hk1 hwl
    have hi2 := wrap_i hk2 hrl
    have hj1 := wrap_s hwl
    have hj2 := wrap_s hrl
    have hu1 := wrap_u hwl
    have hu2 := wrap_u hrl
    have hz1 := nz_b wl
    have hz2 := nz_b rl
    have hzz1 := nz_p wl
    have hzz2 := nz_p rl
    have R14 := RO.out.kept LL14.out
    have hs1 := (slice_G_to (E := PE) (P := Try.prog) Try.underlying23 (by kernel_rfl) r.wa wl r.wc k1 hk1 (by rw [← HWL.out]; exact R14.ws.cap)).1
    have hs2 := (slice_G_to (E := XE) (P := Try.prog) Try.underlying22 (by kernel_rfl) r.ra rl r.rc k2 hk2 (by rw [← HRL.out]; exact R14.rs.rd.cap)).1
    have hc1 : (k1 : Int) ≤ (r.wc : Int) := int_le hk1 (by rw [← HWL.out]; exact R14.ws.cap)
    have hc2 : (k2 : Int) ≤ (r.rc : Int) := int_le hk2 (by rw [← HRL.out]; exact R14.rs.rd.cap)
    have dw := BS14.out.drew.rws
    have dr := BS14.out.drew.rrs
    have HFC : Hid (((RC (stR r true)).set 4 (.slice r.wa k1 r.wc)).set 3 (.slice r.ra k2 r.rc) = RC (fwR r k1 k2)) := (show _ = _ by
      have e1 : (r.ws.take k1).length = k1 := List.length_take_of_le (by rw [HWL.out]; exact hk1)
      have e2 : (r.rs.take k2).length = k2 := List.length_take_of_le (by rw [HRL.out]; exact hk2)
      show [Value.int .i64 r.ses, .int .i64 r.snap, .bool true, .slice r.ra k2 r.rc, .slice r.wa k1 r.wc] = [Value.int .i64 r.ses, .int .i64 r.snap, .bool true, .slice r.ra (r.rs.take k2).length r.rc, .slice r.wa (r.ws.take k1).length r.wc]
      rw [e1, e2])
    have HFK : Hid (k1 ≤ r.ws.length ∧ k2 ≤ r.rs.length) := (show _ ∧ _ by rw [HWL.out, HRL.out]; exact ⟨hk1, hk2⟩)
    unfold wv at dw
    unfold rv at dr
    simp only [stR] at dw dr
    rw [HWL.out] at dw
    rw [HRL.out] at dr
    have HSP := Try.sizeOf23
    have HSX := Try.sizeOf22
    clear R14
    have hik1 := mod_int u wl
    have hik2 := mod_int u rl
    rw [HK1.out] at hik1
    rw [HK2.out] at hik2
    have hit1 := mod_tint u wl
    have hit2 := mod_tint u rl
    rw [HK1.out] at hit1
    rw [HK2.out] at hit2
    refine wp_region_still_tail 12 Try.mixed (by kernel_rfl) ?_
    simp only [List.take_succ_cons, List.take_zero, List.drop_succ_cons, List.drop_zero]
    iterate 12 still_step
    refine wpStill_nil ?_
    go_upto_region 7 with (first
      | (refine wpList_store_sl rfl 23 HSP _ _ rfl ef 4 25 (RC (stR r true)) r.wa k1 r.wc rfl rfl b14.out.drew (show 4 < 5 by decide) ?_; intro w15 hb15 hu15; have BF15 := hide hb15; have BS15 := hide (BS14.out.drew.but hu15 hnsf); have BT15 := hide (BT14.out.drew.but hu15 hntf); have LL15 : Hid (Below w1.heap.size w1 w15) := (show Below _ _ _ from LL14.out.drew.trans (hu15.below hef LL14.out.drew.size)); clear hb15 hu15)
      | fail)
    try simp only [Act.put]
    clear dw dr
    have dr := BS15.out.drew.rrs
    unfold rv at dr
    simp only [stR] at dr
    rw [HRL.out] at dr
    refine wp_region_still_tail 12 Try.mixed (by kernel_rfl) ?_
    simp only [List.take_succ_cons, List.take_zero, List.drop_succ_cons, List.drop_zero]
    iterate 12 still_step
    refine wpStill_nil ?_
    go_upto_region 8 with (first
      | (refine wpList_store_sl rfl 22 HSX _ _ rfl ef 3 25 ((RC (stR r true)).set 4 (.slice r.wa k1 r.wc)) r.ra k2 r.rc rfl rfl BF15.out.drew (show 3 < 5 by decide) ?_; intro w16 hb16 hu16; rw [HFC.out] at hb16; have BF16 := hide hb16; have BS16 := hide (BS15.out.drew.but hu16 hnsf); have BT16 := hide (BT15.out.drew.but hu16 hntf); have LL16 : Hid (Below w1.heap.size w1 w16) := (show Below _ _ _ from LL15.out.drew.trans (hu16.below hef LL15.out.drew.size)); clear hb16 hu16)
      | fail)
    try simp only [Act.put]
    clear dr hik1 hik2 hit1 hit2 hw1 hw2 hi1 hi2 hj1 hj2 hu1 hu2 hz1 hz2 hzz1 hzz2 hs1 hs2 hc1 hc2 BF15 BS15 BT15 BS14 BT14 b14 LL14 LL15 B10 O10
    have RO16 := hide (RO.out.kept LL16.out)
    have OO16 := hide (OO.out.kept LL16.out)
    have BR16 := hide (b1.out.kept LL16.out)
    have BO16 := hide (bo.out.kept LL16.out)
    obtain ⟨E17, HE17⟩ : ∃ E, Hid (w16.heap.size = E) := ⟨_, rfl⟩
    obtain ⟨w17, hw17⟩ : ∃ y, y = w16.alloc (.cells (RC o).toArray 25 (0, 0)) := ⟨_, rfl⟩
    obtain ⟨b17, l17⟩ := newB HE17 hw17
    have R17 : Hid (RdR9 w17 (.slice (some ⟨E17, 0, none⟩) 1 1) [o]) := (show RdR9 _ _ _ by rw [hw17, ← HE17.out]; exact rdR_one OO16.out)
    have HW17 := hide hw17
    have BS17 := hide (BS16.out.kept l17.out)
    have BT17 := hide (BT16.out.kept l17.out)
    have BF17 := hide (BF16.out.kept l17.out)
    have RO17 := hide (RO16.out.kept l17.out)
    have OO17 := hide (OO16.out.kept l17.out)
    have BR17 := hide (BR16.out.kept l17.out)
    have BO17 := hide (BO16.out.kept l17.out)
    have LL17 : Hid (Below w1.heap.size w1 w17) := (show Below _ _ _ from LL16.out.trans (l17.out.mono LL16.out.size))
    clear hw17
    go_upto_region 9 with (first
      | (refine wpList_load_mid rfl 25 _ rfl (N + 1) 0 rfl (RC o) _ BO16.out.range0 Try.underlying25 rfl Try.size25 ?_)
      | (refine wpList_build1E (E := RE) build_rec1 rfl _ rfl o rfl ?_; show wpList _ _ _ _ _ (w16.alloc (.cells (RC o).toArray 25 (0, 0))); rw [← HW17.out, HE17.out])
      | fail)
    try simp only [Act.put]
    obtain ⟨m, HMm⟩ : ∃ m, Hid (mayP (stR r true) [o] = m) := ⟨_, rfl⟩
    have CM := hide (mayV_any (stR_ok RO17.out true) (stR_kok KO.out true) R17.out)
    rw [HMm.out] at CM
    have R0 : Hid (Below w17.heap.size w17 w17) := Below.refl _ _
    have HQ1 := clash_one r o
    have HQ2 := clash_one o r
    rw [hit_sym o r] at HQ2
    obtain ⟨q, HQ⟩ : ∃ q, Hid (hitP (spW r) o = q) := ⟨_, rfl⟩
    rw [HQ.out] at HQ1 HQ2
    have LW : Hid (Below w.heap.size w w17) := (show Below _ _ _ from l1.out.trans (LL17.out.mono l1.out.size))
    cases m with
    | true =>
      go_wp2_with (first
        | (refine wpList_load_mid rfl 25 _ rfl es 0 rfl (RC (stR r true)) _ BS17.out.range0 Try.underlying25 rfl Try.size25 ?_)
        | fail)
      refine CM.out.mono ?_
      rintro e w18 ⟨rfl, hb18⟩
      have M18 := hide hb18
      clear hb18
      go_upto_region 11 with fail
      try simp only [Act.put]
      have BRz := hide (BR17.out.kept M18.out)
      have BOz := hide (BO17.out.kept M18.out)
      have ROz := hide (RO17.out.kept M18.out)
      have OOz := hide (OO17.out.kept M18.out)
      have Rz := hide (R17.out.kept M18.out)
      cases q with
      | true =>
        refine wp_region_inv Try.mixed (KS (fun i_ => match i_ with | 0 | 5 => .val (.agg (RC r).toArray) | 1 => .val (.slice (some ⟨E17, 0, none⟩) 1 1) | 2 | 7 => .val (.int .i64 0) | 3 | 8 | 9 | 10 | 11 | 12 | 13 => .val (.bool true) | 4 => .val (.agg (RC o).toArray) | 6 => .of (fun W v_ => RdR9 W v_ [r]) (fun _ _ _ hg h => h.kept hg) | _ => .free)) 77 rfl (by decide +kernel) (KS_mono _) ?_ ?_
        · refine AllFrom.cons (fun a' w' hg hk hd => ?_) (AllFrom.cons (fun a' w' hg hk hd => ?_) (AllFrom.cons (fun a' w' hg hk hd => ?_) (AllFrom.cons (fun a' w' hg hk hd => ?_) (AllFrom.cons (fun a' w' hg hk hd => ?_) (AllFrom.cons (fun a' w' hg hk hd => ?_) (AllFrom.cons (fun a' w' hg hk hd => ?_) (AllFrom.cons (fun a' w' hg hk hd => ?_) (AllFrom.cons (fun a' w' hg hk hd => ?_) (AllFrom.cons (fun a' w' hg hk hd => ?_) (AllFrom.cons (fun a' w' hg hk hd => ?_) (AllFrom.cons (fun a' w' hg hk hd => ?_) (AllFrom.cons (fun a' w' hg hk hd => ?_) (AllFrom.cons (fun a' w' hg hk hd => ?_) AllFrom.nil)))))))))))))
          · skip
            intro Q
            have e3 : a'.eval (.tmp 3) = .pointer (some ⟨N, 0, none⟩) := hk.at 3 (by decide +kernel)
            exact wp_load_row 25 _ rfl _ _ e3 (RC r) _ ((BRz.out.kept hg).range0) Try.underlying25 rfl (Try.size25) (KS_mkv rfl rfl)
          · skip
            intro Q
            have e10 : a'.eval (.tmp 10) = .slice (some ⟨E17, 0, none⟩) 1 1 := hk.at 10 (by decide +kernel)
            exact wp_value _ (by simp only [execOp, e10]; rfl) (KS_mkv rfl rfl)
          · skip
            intro Q
            have e64 : a'.eval (.tmp 64) = .agg (RC r).toArray := KS_val (hd.val 0 64 (by decide +kernel)) rfl
            have e65 : a'.eval (.tmp 65) = .slice (some ⟨E17, 0, none⟩) 1 1 := KS_val (hd.val 1 65 (by decide +kernel)) rfl
            refine wp_call 18 _ (run_enter 18 _ _ rfl (by kernel_rfl)) ?_
            simp only [List.map_toArray, List.map_nil, List.map_cons, e64, e65]
            refine (clashV_any (ROz.out.kept hg) KO.out (Rz.out.kept hg)).mono ?_
            rintro e w5 ⟨rfl, hb5⟩
            exact ⟨_, rfl, KS_mkv rfl (by rw [HQ1]; rfl), hb5⟩
          · skip
            intro Q
            have e66 : a'.eval (.tmp 66) = .int .i64 0 := KS_val (hd.val 2 66 (by decide +kernel)) rfl
            clear hd hk
            exact wp_value (.bool true) (by simp only [execOp, e66]; go_simp) (KS_mkv rfl rfl)
          · skip
            intro Q
            have e4 : a'.eval (.tmp 4) = .pointer (some ⟨N + 1, 0, none⟩) := hk.at 4 (by decide +kernel)
            exact wp_load_row 25 _ rfl _ _ e4 (RC o) _ ((BOz.out.kept hg).range0) Try.underlying25 rfl (Try.size25) (KS_mkv rfl rfl)
          · skip
            intro Q
            have e3 : a'.eval (.tmp 3) = .pointer (some ⟨N, 0, none⟩) := hk.at 3 (by decide +kernel)
            exact wp_load_row 25 _ rfl _ _ e3 (RC r) _ ((BRz.out.kept hg).range0) Try.underlying25 rfl (Try.size25) (KS_mkv rfl rfl)
          · skip
            intro Q
            have e69 : a'.eval (.tmp 69) = .agg (RC r).toArray := KS_val (hd.val 5 69 (by decide +kernel)) rfl
            exact wp_grow _ _ (by simp only [execOp, List.map_toArray, List.map_cons, List.map_nil, e69, Sem.run_bind, Sem.run_pure]; exact congrArg (fun r => Result.andThen r _) (build_rec1 r _)) ((Below.refl _ _).alloc (Nat.le_refl _) _) (KS_mko rfl (rdR_one (ROz.out.kept hg)))
          · skip
            intro Q
            have e68 : a'.eval (.tmp 68) = .agg (RC o).toArray := KS_val (hd.val 4 68 (by decide +kernel)) rfl
            have r70 := KS_of (hd.val 6 70 (by decide +kernel)) rfl
            refine wp_call 18 _ (run_enter 18 _ _ rfl (by kernel_rfl)) ?_
            simp only [List.map_toArray, List.map_nil, List.map_cons, e68]
            refine (clashV_any (OOz.out.kept hg) KOO.out r70).mono ?_
            rintro e w5 ⟨rfl, hb5⟩
            exact ⟨_, rfl, KS_mkv rfl (by rw [HQ2]; rfl), hb5⟩
          · skip
            intro Q
            have e71 : a'.eval (.tmp 71) = .int .i64 0 := KS_val (hd.val 7 71 (by decide +kernel)) rfl
            clear hd hk
            exact wp_value (.bool true) (by simp only [execOp, e71]; go_simp) (KS_mkv rfl rfl)
          · skip
            intro Q
            have e67 : a'.eval (.tmp 67) = .bool true := KS_val (hd.val 3 67 (by decide +kernel)) rfl
            have e72 : a'.eval (.tmp 72) = .bool true := KS_val (hd.val 8 72 (by decide +kernel)) rfl
            clear hd hk
            exact wp_value (.bool true) (by simp only [execOp, e67, e72]; go_simp) (KS_mkv rfl rfl)
          · skip
            intro Q
            have e73 : a'.eval (.tmp 73) = .bool true := KS_val (hd.val 9 73 (by decide +kernel)) rfl
            exact wp_value _ (by simp only [execOp, e73]; rfl) (KS_mkv rfl rfl)
          · skip
            have eg : a'.eval (.tmp 74) = .bool true := KS_val (hd.val 10 74 (by decide +kernel)) rfl
            refine ⟨74, true, rfl, eg, fun _ Q => ?_, fun h => absurd rfl h⟩
            refine wp_call 10 _ (run_enter 10 _ _ rfl (by kernel_rfl)) ?_
            simp only [List.map_toArray, List.map_nil]
            refine (lives_any _).mono ?_
            rintro e w5 ⟨rfl, hb5⟩
            exact ⟨_, rfl, KS_mkv rfl rfl, hb5⟩
          · skip
            intro Q
            have e74 : a'.eval (.tmp 74) = .bool true := KS_val (hd.val 10 74 (by decide +kernel)) rfl
            have e75 : a'.eval (.tmp 75) = .bool true := KS_val (hd.val 11 75 (by decide +kernel)) rfl
            clear hd hk
            exact wp_value (.bool true) (by simp only [execOp, e74, e75]; go_simp) (KS_mkv rfl rfl)
          · skip
            intro Q
            have e76 : a'.eval (.tmp 76) = .bool true := KS_val (hd.val 12 76 (by decide +kernel)) rfl
            exact wp_value _ (by simp only [execOp, e76]; rfl) (KS_mkv rfl rfl)
        · intro a' wz hsz hdf hk hall hg
          have L19 : Hid (Below w.heap.size w wz) := (show _ from LW.out.trans ((M18.out.trans (hg.mono M18.out.size)).mono LW.out.size))
          have e64 : a'.eval (.tmp 64) = .agg (RC r).toArray := KS_val (hall 0 _ 64 rfl rfl) rfl
          have e65 : a'.eval (.tmp 65) = .slice (some ⟨E17, 0, none⟩) 1 1 := KS_val (hall 1 _ 65 rfl rfl) rfl
          have e66 : a'.eval (.tmp 66) = .int .i64 0 := KS_val (hall 2 _ 66 rfl rfl) rfl
          have e67 : a'.eval (.tmp 67) = .bool true := KS_val (hall 3 _ 67 rfl rfl) rfl
          have e68 : a'.eval (.tmp 68) = .agg (RC o).toArray := KS_val (hall 4 _ 68 rfl rfl) rfl
          have e69 : a'.eval (.tmp 69) = .agg (RC r).toArray := KS_val (hall 5 _ 69 rfl rfl) rfl
          have r70 : (fun W v_ => RdR9 W v_ [r]) wz (a'.eval (.tmp 70)) := KS_of (hall 6 _ 70 rfl rfl) rfl
          obtain ⟨x70, hx70⟩ : ∃ v, a'.eval (.tmp 70) = v := ⟨_, rfl⟩
          rw [hx70] at r70
          have e71 : a'.eval (.tmp 71) = .int .i64 0 := KS_val (hall 7 _ 71 rfl rfl) rfl
          have e72 : a'.eval (.tmp 72) = .bool true := KS_val (hall 8 _ 72 rfl rfl) rfl
          have e73 : a'.eval (.tmp 73) = .bool true := KS_val (hall 9 _ 73 rfl rfl) rfl
          have e74 : a'.eval (.tmp 74) = .bool true := KS_val (hall 10 _ 74 rfl rfl) rfl
          have e75 : a'.eval (.tmp 75) = .bool true := KS_val (hall 11 _ 75 rfl rfl) rfl
          have e76 : a'.eval (.tmp 76) = .bool true := KS_val (hall 12 _ 76 rfl rfl) rfl
          have e6 : a'.eval (.tmp 6) = .bool true := KS_val (hall 13 _ 6 rfl rfl) rfl
          have ha := act_puts 77 rfl hsz hdf hk [64, 65, 66, 67, 68, 69, 70, 71, 72, 73, 74, 75, 76, 6] (by decide +kernel)
          simp only [puts, List.foldl_cons, List.foldl_nil, e64, e65, e66, e67, e68, e69, hx70, e71, e72, e73, e74, e75, e76, e6] at ha
          simp only [Act.put, List.setIfInBounds_toArray, List.set_cons_succ, List.set_cons_zero] at ha
          clear hall hk hsz hdf e64 e65 e66 e67 e68 e69 hx70 e71 e72 e73 e74 e75 e76 e6
          subst ha
          go_wp2_with fail
          go_ret
          exact ⟨rfl, L19.out⟩
      | false =>
        refine wp_region_inv Try.mixed (KS (fun i_ => match i_ with | 0 | 5 => .val (.agg (RC r).toArray) | 1 => .val (.slice (some ⟨E17, 0, none⟩) 1 1) | 2 | 7 => .val (.int .i64 (-1)) | 3 | 8 => .val (.bool false) | 4 => .val (.agg (RC o).toArray) | 6 => .of (fun W v_ => RdR9 W v_ [r]) (fun _ _ _ hg h => h.kept hg) | 9 | 10 | 11 | 12 | 13 => .val (.bool true) | _ => .free)) 77 rfl (by decide +kernel) (KS_mono _) ?_ ?_
        · refine AllFrom.cons (fun a' w' hg hk hd => ?_) (AllFrom.cons (fun a' w' hg hk hd => ?_) (AllFrom.cons (fun a' w' hg hk hd => ?_) (AllFrom.cons (fun a' w' hg hk hd => ?_) (AllFrom.cons (fun a' w' hg hk hd => ?_) (AllFrom.cons (fun a' w' hg hk hd => ?_) (AllFrom.cons (fun a' w' hg hk hd => ?_) (AllFrom.cons (fun a' w' hg hk hd => ?_) (AllFrom.cons (fun a' w' hg hk hd => ?_) (AllFrom.cons (fun a' w' hg hk hd => ?_) (AllFrom.cons (fun a' w' hg hk hd => ?_) (AllFrom.cons (fun a' w' hg hk hd => ?_) (AllFrom.cons (fun a' w' hg hk hd => ?_) (AllFrom.cons (fun a' w' hg hk hd => ?_) AllFrom.nil)))))))))))))
          · skip
            intro Q
            have e3 : a'.eval (.tmp 3) = .pointer (some ⟨N, 0, none⟩) := hk.at 3 (by decide +kernel)
            exact wp_load_row 25 _ rfl _ _ e3 (RC r) _ ((BRz.out.kept hg).range0) Try.underlying25 rfl (Try.size25) (KS_mkv rfl rfl)
          · skip
            intro Q
            have e10 : a'.eval (.tmp 10) = .slice (some ⟨E17, 0, none⟩) 1 1 := hk.at 10 (by decide +kernel)
            exact wp_value _ (by simp only [execOp, e10]; rfl) (KS_mkv rfl rfl)
          · skip
            intro Q
            have e64 : a'.eval (.tmp 64) = .agg (RC r).toArray := KS_val (hd.val 0 64 (by decide +kernel)) rfl
            have e65 : a'.eval (.tmp 65) = .slice (some ⟨E17, 0, none⟩) 1 1 := KS_val (hd.val 1 65 (by decide +kernel)) rfl
            refine wp_call 18 _ (run_enter 18 _ _ rfl (by kernel_rfl)) ?_
            simp only [List.map_toArray, List.map_nil, List.map_cons, e64, e65]
            refine (clashV_any (ROz.out.kept hg) KO.out (Rz.out.kept hg)).mono ?_
            rintro e w5 ⟨rfl, hb5⟩
            exact ⟨_, rfl, KS_mkv rfl (by rw [HQ1]; rfl), hb5⟩
          · skip
            intro Q
            have e66 : a'.eval (.tmp 66) = .int .i64 (-1) := KS_val (hd.val 2 66 (by decide +kernel)) rfl
            clear hd hk
            exact wp_value (.bool false) (by simp only [execOp, e66]; go_simp) (KS_mkv rfl rfl)
          · skip
            intro Q
            have e4 : a'.eval (.tmp 4) = .pointer (some ⟨N + 1, 0, none⟩) := hk.at 4 (by decide +kernel)
            exact wp_load_row 25 _ rfl _ _ e4 (RC o) _ ((BOz.out.kept hg).range0) Try.underlying25 rfl (Try.size25) (KS_mkv rfl rfl)
          · skip
            intro Q
            have e3 : a'.eval (.tmp 3) = .pointer (some ⟨N, 0, none⟩) := hk.at 3 (by decide +kernel)
            exact wp_load_row 25 _ rfl _ _ e3 (RC r) _ ((BRz.out.kept hg).range0) Try.underlying25 rfl (Try.size25) (KS_mkv rfl rfl)
          · skip
            intro Q
            have e69 : a'.eval (.tmp 69) = .agg (RC r).toArray := KS_val (hd.val 5 69 (by decide +kernel)) rfl
            exact wp_grow _ _ (by simp only [execOp, List.map_toArray, List.map_cons, List.map_nil, e69, Sem.run_bind, Sem.run_pure]; exact congrArg (fun r => Result.andThen r _) (build_rec1 r _)) ((Below.refl _ _).alloc (Nat.le_refl _) _) (KS_mko rfl (rdR_one (ROz.out.kept hg)))
          · skip
            intro Q
            have e68 : a'.eval (.tmp 68) = .agg (RC o).toArray := KS_val (hd.val 4 68 (by decide +kernel)) rfl
            have r70 := KS_of (hd.val 6 70 (by decide +kernel)) rfl
            refine wp_call 18 _ (run_enter 18 _ _ rfl (by kernel_rfl)) ?_
            simp only [List.map_toArray, List.map_nil, List.map_cons, e68]
            refine (clashV_any (OOz.out.kept hg) KOO.out r70).mono ?_
            rintro e w5 ⟨rfl, hb5⟩
            exact ⟨_, rfl, KS_mkv rfl (by rw [HQ2]; rfl), hb5⟩
          · skip
            intro Q
            have e71 : a'.eval (.tmp 71) = .int .i64 (-1) := KS_val (hd.val 7 71 (by decide +kernel)) rfl
            clear hd hk
            exact wp_value (.bool false) (by simp only [execOp, e71]; go_simp) (KS_mkv rfl rfl)
          · skip
            intro Q
            have e67 : a'.eval (.tmp 67) = .bool false := KS_val (hd.val 3 67 (by decide +kernel)) rfl
            have e72 : a'.eval (.tmp 72) = .bool false := KS_val (hd.val 8 72 (by decide +kernel)) rfl
            clear hd hk
            exact wp_value (.bool true) (by simp only [execOp, e67, e72]; go_simp) (KS_mkv rfl rfl)
          · skip
            intro Q
            have e73 : a'.eval (.tmp 73) = .bool true := KS_val (hd.val 9 73 (by decide +kernel)) rfl
            exact wp_value _ (by simp only [execOp, e73]; rfl) (KS_mkv rfl rfl)
          · skip
            have eg : a'.eval (.tmp 74) = .bool true := KS_val (hd.val 10 74 (by decide +kernel)) rfl
            refine ⟨74, true, rfl, eg, fun _ Q => ?_, fun h => absurd rfl h⟩
            refine wp_call 10 _ (run_enter 10 _ _ rfl (by kernel_rfl)) ?_
            simp only [List.map_toArray, List.map_nil]
            refine (lives_any _).mono ?_
            rintro e w5 ⟨rfl, hb5⟩
            exact ⟨_, rfl, KS_mkv rfl rfl, hb5⟩
          · skip
            intro Q
            have e74 : a'.eval (.tmp 74) = .bool true := KS_val (hd.val 10 74 (by decide +kernel)) rfl
            have e75 : a'.eval (.tmp 75) = .bool true := KS_val (hd.val 11 75 (by decide +kernel)) rfl
            clear hd hk
            exact wp_value (.bool true) (by simp only [execOp, e74, e75]; go_simp) (KS_mkv rfl rfl)
          · skip
            intro Q
            have e76 : a'.eval (.tmp 76) = .bool true := KS_val (hd.val 12 76 (by decide +kernel)) rfl
            exact wp_value _ (by simp only [execOp, e76]; rfl) (KS_mkv rfl rfl)
        · intro a' wz hsz hdf hk hall hg
          have L19 : Hid (Below w.heap.size w wz) := (show _ from LW.out.trans ((M18.out.trans (hg.mono M18.out.size)).mono LW.out.size))
          have e64 : a'.eval (.tmp 64) = .agg (RC r).toArray := KS_val (hall 0 _ 64 rfl rfl) rfl
          have e65 : a'.eval (.tmp 65) = .slice (some ⟨E17, 0, none⟩) 1 1 := KS_val (hall 1 _ 65 rfl rfl) rfl
          have e66 : a'.eval (.tmp 66) = .int .i64 (-1) := KS_val (hall 2 _ 66 rfl rfl) rfl
          have e67 : a'.eval (.tmp 67) = .bool false := KS_val (hall 3 _ 67 rfl rfl) rfl
          have e68 : a'.eval (.tmp 68) = .agg (RC o).toArray := KS_val (hall 4 _ 68 rfl rfl) rfl
          have e69 : a'.eval (.tmp 69) = .agg (RC r).toArray := KS_val (hall 5 _ 69 rfl rfl) rfl
          have r70 : (fun W v_ => RdR9 W v_ [r]) wz (a'.eval (.tmp 70)) := KS_of (hall 6 _ 70 rfl rfl) rfl
          obtain ⟨x70, hx70⟩ : ∃ v, a'.eval (.tmp 70) = v := ⟨_, rfl⟩
          rw [hx70] at r70
          have e71 : a'.eval (.tmp 71) = .int .i64 (-1) := KS_val (hall 7 _ 71 rfl rfl) rfl
          have e72 : a'.eval (.tmp 72) = .bool false := KS_val (hall 8 _ 72 rfl rfl) rfl
          have e73 : a'.eval (.tmp 73) = .bool true := KS_val (hall 9 _ 73 rfl rfl) rfl
          have e74 : a'.eval (.tmp 74) = .bool true := KS_val (hall 10 _ 74 rfl rfl) rfl
          have e75 : a'.eval (.tmp 75) = .bool true := KS_val (hall 11 _ 75 rfl rfl) rfl
          have e76 : a'.eval (.tmp 76) = .bool true := KS_val (hall 12 _ 76 rfl rfl) rfl
          have e6 : a'.eval (.tmp 6) = .bool true := KS_val (hall 13 _ 6 rfl rfl) rfl
          have ha := act_puts 77 rfl hsz hdf hk [64, 65, 66, 67, 68, 69, 70, 71, 72, 73, 74, 75, 76, 6] (by decide +kernel)
          simp only [puts, List.foldl_cons, List.foldl_nil, e64, e65, e66, e67, e68, e69, hx70, e71, e72, e73, e74, e75, e76, e6] at ha
          simp only [Act.put, List.setIfInBounds_toArray, List.set_cons_succ, List.set_cons_zero] at ha
          clear hall hk hsz hdf e64 e65 e66 e67 e68 e69 hx70 e71 e72 e73 e74 e75 e76 e6
          subst ha
          go_wp2_with fail
          go_ret
          exact ⟨rfl, L19.out⟩
    | false =>
      have HWK := weak r o k1 k2 HMm.out
      go_wp2_with (first
        | (refine wpList_load_mid rfl 25 _ rfl es 0 rfl (RC (stR r true)) _ BS17.out.range0 Try.underlying25 rfl Try.size25 ?_)
        | fail)
      refine CM.out.mono ?_
      rintro e w18 ⟨rfl, hb18⟩
      have M18 := hide hb18
      have BT18 := hide (BT17.out.kept hb18)
      have CM2 := hide (mayV_any (stR_ok (RO17.out.kept hb18) false) (stR_kok KO.out false) (R17.out.kept hb18))
      rw [HWK.1] at CM2
      clear hb18 CM
      go_wp2_with (first
        | (refine wpList_load_w9 rfl 25 _ rfl et 0 rfl (RC (stR r false)) _ BT18.out.range0 Try.underlying25 rfl Try.size25 ?_)
        | fail)
      refine CM2.out.mono ?_
      rintro e w19 ⟨rfl, hb19⟩
      have M19 : Hid (Below w17.heap.size w17 w19) := (show Below _ _ _ from M18.out.trans (hb19.mono M18.out.size))
      have BF19 := hide (BF17.out.kept M19.out)
      have CM3 := hide (mayV_any (fwR_ok (RO17.out.kept M19.out) HFK.out.1 HFK.out.2) (fwR_kok KO.out k1 k2) (R17.out.kept M19.out))
      rw [HWK.2] at CM3
      clear hb19 CM2 HWK
      go_wp2_with (first
        | (refine wpList_load_w9 rfl 25 _ rfl ef 0 rfl (RC (fwR r k1 k2)) _ BF19.out.range0 Try.underlying25 rfl Try.size25 ?_)
        | fail)
      refine CM3.out.mono ?_
      rintro e w20 ⟨rfl, hb20⟩
      have M20 : Hid (Below w17.heap.size w17 w20) := (show Below _ _ _ from M19.out.trans (hb20.mono M19.out.size))
      clear hb20 CM3
      go_upto_region 11 with fail
      try simp only [Act.put]
      have BRz := hide (BR17.out.kept M20.out)
      have BOz := hide (BO17.out.kept M20.out)
      have ROz := hide (RO17.out.kept M20.out)
      have OOz := hide (OO17.out.kept M20.out)
      have Rz := hide (R17.out.kept M20.out)
      cases q with
      | true =>
        refine wp_region_inv Try.mixed (KS (fun i_ => match i_ with | 0 | 5 => .val (.agg (RC r).toArray) | 1 => .val (.slice (some ⟨E17, 0, none⟩) 1 1) | 2 | 7 => .val (.int .i64 0) | 3 | 8 | 9 | 10 | 11 | 12 | 13 => .val (.bool true) | 4 => .val (.agg (RC o).toArray) | 6 => .of (fun W v_ => RdR9 W v_ [r]) (fun _ _ _ hg h => h.kept hg) | _ => .free)) 77 rfl (by decide +kernel) (KS_mono _) ?_ ?_
        · refine AllFrom.cons (fun a' w' hg hk hd => ?_) (AllFrom.cons (fun a' w' hg hk hd => ?_) (AllFrom.cons (fun a' w' hg hk hd => ?_) (AllFrom.cons (fun a' w' hg hk hd => ?_) (AllFrom.cons (fun a' w' hg hk hd => ?_) (AllFrom.cons (fun a' w' hg hk hd => ?_) (AllFrom.cons (fun a' w' hg hk hd => ?_) (AllFrom.cons (fun a' w' hg hk hd => ?_) (AllFrom.cons (fun a' w' hg hk hd => ?_) (AllFrom.cons (fun a' w' hg hk hd => ?_) (AllFrom.cons (fun a' w' hg hk hd => ?_) (AllFrom.cons (fun a' w' hg hk hd => ?_) (AllFrom.cons (fun a' w' hg hk hd => ?_) (AllFrom.cons (fun a' w' hg hk hd => ?_) AllFrom.nil)))))))))))))
          · skip
            intro Q
            have e3 : a'.eval (.tmp 3) = .pointer (some ⟨N, 0, none⟩) := hk.at 3 (by decide +kernel)
            exact wp_load_row 25 _ rfl _ _ e3 (RC r) _ ((BRz.out.kept hg).range0) Try.underlying25 rfl (Try.size25) (KS_mkv rfl rfl)
          · skip
            intro Q
            have e10 : a'.eval (.tmp 10) = .slice (some ⟨E17, 0, none⟩) 1 1 := hk.at 10 (by decide +kernel)
            exact wp_value _ (by simp only [execOp, e10]; rfl) (KS_mkv rfl rfl)
          · skip
            intro Q
            have e64 : a'.eval (.tmp 64) = .agg (RC r).toArray := KS_val (hd.val 0 64 (by decide +kernel)) rfl
            have e65 : a'.eval (.tmp 65) = .slice (some ⟨E17, 0, none⟩) 1 1 := KS_val (hd.val 1 65 (by decide +kernel)) rfl
            refine wp_call 18 _ (run_enter 18 _ _ rfl (by kernel_rfl)) ?_
            simp only [List.map_toArray, List.map_nil, List.map_cons, e64, e65]
            refine (clashV_any (ROz.out.kept hg) KO.out (Rz.out.kept hg)).mono ?_
            rintro e w5 ⟨rfl, hb5⟩
            exact ⟨_, rfl, KS_mkv rfl (by rw [HQ1]; rfl), hb5⟩
          · skip
            intro Q
            have e66 : a'.eval (.tmp 66) = .int .i64 0 := KS_val (hd.val 2 66 (by decide +kernel)) rfl
            clear hd hk
            exact wp_value (.bool true) (by simp only [execOp, e66]; go_simp) (KS_mkv rfl rfl)
          · skip
            intro Q
            have e4 : a'.eval (.tmp 4) = .pointer (some ⟨N + 1, 0, none⟩) := hk.at 4 (by decide +kernel)
            exact wp_load_row 25 _ rfl _ _ e4 (RC o) _ ((BOz.out.kept hg).range0) Try.underlying25 rfl (Try.size25) (KS_mkv rfl rfl)
          · skip
            intro Q
            have e3 : a'.eval (.tmp 3) = .pointer (some ⟨N, 0, none⟩) := hk.at 3 (by decide +kernel)
            exact wp_load_row 25 _ rfl _ _ e3 (RC r) _ ((BRz.out.kept hg).range0) Try.underlying25 rfl (Try.size25) (KS_mkv rfl rfl)
          · skip
            intro Q
            have e69 : a'.eval (.tmp 69) = .agg (RC r).toArray := KS_val (hd.val 5 69 (by decide +kernel)) rfl
            exact wp_grow _ _ (by simp only [execOp, List.map_toArray, List.map_cons, List.map_nil, e69, Sem.run_bind, Sem.run_pure]; exact congrArg (fun r => Result.andThen r _) (build_rec1 r _)) ((Below.refl _ _).alloc (Nat.le_refl _) _) (KS_mko rfl (rdR_one (ROz.out.kept hg)))
          · skip
            intro Q
            have e68 : a'.eval (.tmp 68) = .agg (RC o).toArray := KS_val (hd.val 4 68 (by decide +kernel)) rfl
            have r70 := KS_of (hd.val 6 70 (by decide +kernel)) rfl
            refine wp_call 18 _ (run_enter 18 _ _ rfl (by kernel_rfl)) ?_
            simp only [List.map_toArray, List.map_nil, List.map_cons, e68]
            refine (clashV_any (OOz.out.kept hg) KOO.out r70).mono ?_
            rintro e w5 ⟨rfl, hb5⟩
            exact ⟨_, rfl, KS_mkv rfl (by rw [HQ2]; rfl), hb5⟩
          · skip
            intro Q
            have e71 : a'.eval (.tmp 71) = .int .i64 0 := KS_val (hd.val 7 71 (by decide +kernel)) rfl
            clear hd hk
            exact wp_value (.bool true) (by simp only [execOp, e71]; go_simp) (KS_mkv rfl rfl)
          · skip
            intro Q
            have e67 : a'.eval (.tmp 67) = .bool true := KS_val (hd.val 3 67 (by decide +kernel)) rfl
            have e72 : a'.eval (.tmp 72) = .bool true := KS_val (hd.val 8 72 (by decide +kernel)) rfl
            clear hd hk
            exact wp_value (.bool true) (by simp only [execOp, e67, e72]; go_simp) (KS_mkv rfl rfl)
          · skip
            intro Q
            have e73 : a'.eval (.tmp 73) = .bool true := KS_val (hd.val 9 73 (by decide +kernel)) rfl
            exact wp_value _ (by simp only [execOp, e73]; rfl) (KS_mkv rfl rfl)
          · skip
            have eg : a'.eval (.tmp 74) = .bool true := KS_val (hd.val 10 74 (by decide +kernel)) rfl
            refine ⟨74, true, rfl, eg, fun _ Q => ?_, fun h => absurd rfl h⟩
            refine wp_call 10 _ (run_enter 10 _ _ rfl (by kernel_rfl)) ?_
            simp only [List.map_toArray, List.map_nil]
            refine (lives_any _).mono ?_
            rintro e w5 ⟨rfl, hb5⟩
            exact ⟨_, rfl, KS_mkv rfl rfl, hb5⟩
          · skip
            intro Q
            have e74 : a'.eval (.tmp 74) = .bool true := KS_val (hd.val 10 74 (by decide +kernel)) rfl
            have e75 : a'.eval (.tmp 75) = .bool true := KS_val (hd.val 11 75 (by decide +kernel)) rfl
            clear hd hk
            exact wp_value (.bool true) (by simp only [execOp, e74, e75]; go_simp) (KS_mkv rfl rfl)
          · skip
            intro Q
            have e76 : a'.eval (.tmp 76) = .bool true := KS_val (hd.val 12 76 (by decide +kernel)) rfl
            exact wp_value _ (by simp only [execOp, e76]; rfl) (KS_mkv rfl rfl)
        · intro a' wz hsz hdf hk hall hg
          have L19 : Hid (Below w.heap.size w wz) := (show _ from LW.out.trans ((M20.out.trans (hg.mono M20.out.size)).mono LW.out.size))
          have e64 : a'.eval (.tmp 64) = .agg (RC r).toArray := KS_val (hall 0 _ 64 rfl rfl) rfl
          have e65 : a'.eval (.tmp 65) = .slice (some ⟨E17, 0, none⟩) 1 1 := KS_val (hall 1 _ 65 rfl rfl) rfl
          have e66 : a'.eval (.tmp 66) = .int .i64 0 := KS_val (hall 2 _ 66 rfl rfl) rfl
          have e67 : a'.eval (.tmp 67) = .bool true := KS_val (hall 3 _ 67 rfl rfl) rfl
          have e68 : a'.eval (.tmp 68) = .agg (RC o).toArray := KS_val (hall 4 _ 68 rfl rfl) rfl
          have e69 : a'.eval (.tmp 69) = .agg (RC r).toArray := KS_val (hall 5 _ 69 rfl rfl) rfl
          have r70 : (fun W v_ => RdR9 W v_ [r]) wz (a'.eval (.tmp 70)) := KS_of (hall 6 _ 70 rfl rfl) rfl
          obtain ⟨x70, hx70⟩ : ∃ v, a'.eval (.tmp 70) = v := ⟨_, rfl⟩
          rw [hx70] at r70
          have e71 : a'.eval (.tmp 71) = .int .i64 0 := KS_val (hall 7 _ 71 rfl rfl) rfl
          have e72 : a'.eval (.tmp 72) = .bool true := KS_val (hall 8 _ 72 rfl rfl) rfl
          have e73 : a'.eval (.tmp 73) = .bool true := KS_val (hall 9 _ 73 rfl rfl) rfl
          have e74 : a'.eval (.tmp 74) = .bool true := KS_val (hall 10 _ 74 rfl rfl) rfl
          have e75 : a'.eval (.tmp 75) = .bool true := KS_val (hall 11 _ 75 rfl rfl) rfl
          have e76 : a'.eval (.tmp 76) = .bool true := KS_val (hall 12 _ 76 rfl rfl) rfl
          have e6 : a'.eval (.tmp 6) = .bool true := KS_val (hall 13 _ 6 rfl rfl) rfl
          have ha := act_puts 77 rfl hsz hdf hk [64, 65, 66, 67, 68, 69, 70, 71, 72, 73, 74, 75, 76, 6] (by decide +kernel)
          simp only [puts, List.foldl_cons, List.foldl_nil, e64, e65, e66, e67, e68, e69, hx70, e71, e72, e73, e74, e75, e76, e6] at ha
          simp only [Act.put, List.setIfInBounds_toArray, List.set_cons_succ, List.set_cons_zero] at ha
          clear hall hk hsz hdf e64 e65 e66 e67 e68 e69 hx70 e71 e72 e73 e74 e75 e76 e6
          subst ha
          go_wp2_with fail
          go_ret
          exact ⟨rfl, L19.out⟩
      | false =>
        refine wp_region_inv Try.mixed (KS (fun i_ => match i_ with | 0 | 5 => .val (.agg (RC r).toArray) | 1 => .val (.slice (some ⟨E17, 0, none⟩) 1 1) | 2 | 7 => .val (.int .i64 (-1)) | 3 | 8 => .val (.bool false) | 4 => .val (.agg (RC o).toArray) | 6 => .of (fun W v_ => RdR9 W v_ [r]) (fun _ _ _ hg h => h.kept hg) | 9 | 10 | 11 | 12 | 13 => .val (.bool true) | _ => .free)) 77 rfl (by decide +kernel) (KS_mono _) ?_ ?_
        · refine AllFrom.cons (fun a' w' hg hk hd => ?_) (AllFrom.cons (fun a' w' hg hk hd => ?_) (AllFrom.cons (fun a' w' hg hk hd => ?_) (AllFrom.cons (fun a' w' hg hk hd => ?_) (AllFrom.cons (fun a' w' hg hk hd => ?_) (AllFrom.cons (fun a' w' hg hk hd => ?_) (AllFrom.cons (fun a' w' hg hk hd => ?_) (AllFrom.cons (fun a' w' hg hk hd => ?_) (AllFrom.cons (fun a' w' hg hk hd => ?_) (AllFrom.cons (fun a' w' hg hk hd => ?_) (AllFrom.cons (fun a' w' hg hk hd => ?_) (AllFrom.cons (fun a' w' hg hk hd => ?_) (AllFrom.cons (fun a' w' hg hk hd => ?_) (AllFrom.cons (fun a' w' hg hk hd => ?_) AllFrom.nil)))))))))))))
          · skip
            intro Q
            have e3 : a'.eval (.tmp 3) = .pointer (some ⟨N, 0, none⟩) := hk.at 3 (by decide +kernel)
            exact wp_load_row 25 _ rfl _ _ e3 (RC r) _ ((BRz.out.kept hg).range0) Try.underlying25 rfl (Try.size25) (KS_mkv rfl rfl)
          · skip
            intro Q
            have e10 : a'.eval (.tmp 10) = .slice (some ⟨E17, 0, none⟩) 1 1 := hk.at 10 (by decide +kernel)
            exact wp_value _ (by simp only [execOp, e10]; rfl) (KS_mkv rfl rfl)
          · skip
            intro Q
            have e64 : a'.eval (.tmp 64) = .agg (RC r).toArray := KS_val (hd.val 0 64 (by decide +kernel)) rfl
            have e65 : a'.eval (.tmp 65) = .slice (some ⟨E17, 0, none⟩) 1 1 := KS_val (hd.val 1 65 (by decide +kernel)) rfl
            refine wp_call 18 _ (run_enter 18 _ _ rfl (by kernel_rfl)) ?_
            simp only [List.map_toArray, List.map_nil, List.map_cons, e64, e65]
            refine (clashV_any (ROz.out.kept hg) KO.out (Rz.out.kept hg)).mono ?_
            rintro e w5 ⟨rfl, hb5⟩
            exact ⟨_, rfl, KS_mkv rfl (by rw [HQ1]; rfl), hb5⟩
          · skip
            intro Q
            have e66 : a'.eval (.tmp 66) = .int .i64 (-1) := KS_val (hd.val 2 66 (by decide +kernel)) rfl
            clear hd hk
            exact wp_value (.bool false) (by simp only [execOp, e66]; go_simp) (KS_mkv rfl rfl)
          · skip
            intro Q
            have e4 : a'.eval (.tmp 4) = .pointer (some ⟨N + 1, 0, none⟩) := hk.at 4 (by decide +kernel)
            exact wp_load_row 25 _ rfl _ _ e4 (RC o) _ ((BOz.out.kept hg).range0) Try.underlying25 rfl (Try.size25) (KS_mkv rfl rfl)
          · skip
            intro Q
            have e3 : a'.eval (.tmp 3) = .pointer (some ⟨N, 0, none⟩) := hk.at 3 (by decide +kernel)
            exact wp_load_row 25 _ rfl _ _ e3 (RC r) _ ((BRz.out.kept hg).range0) Try.underlying25 rfl (Try.size25) (KS_mkv rfl rfl)
          · skip
            intro Q
            have e69 : a'.eval (.tmp 69) = .agg (RC r).toArray := KS_val (hd.val 5 69 (by decide +kernel)) rfl
            exact wp_grow _ _ (by simp only [execOp, List.map_toArray, List.map_cons, List.map_nil, e69, Sem.run_bind, Sem.run_pure]; exact congrArg (fun r => Result.andThen r _) (build_rec1 r _)) ((Below.refl _ _).alloc (Nat.le_refl _) _) (KS_mko rfl (rdR_one (ROz.out.kept hg)))
          · skip
            intro Q
            have e68 : a'.eval (.tmp 68) = .agg (RC o).toArray := KS_val (hd.val 4 68 (by decide +kernel)) rfl
            have r70 := KS_of (hd.val 6 70 (by decide +kernel)) rfl
            refine wp_call 18 _ (run_enter 18 _ _ rfl (by kernel_rfl)) ?_
            simp only [List.map_toArray, List.map_nil, List.map_cons, e68]
            refine (clashV_any (OOz.out.kept hg) KOO.out r70).mono ?_
            rintro e w5 ⟨rfl, hb5⟩
            exact ⟨_, rfl, KS_mkv rfl (by rw [HQ2]; rfl), hb5⟩
          · skip
            intro Q
            have e71 : a'.eval (.tmp 71) = .int .i64 (-1) := KS_val (hd.val 7 71 (by decide +kernel)) rfl
            clear hd hk
            exact wp_value (.bool false) (by simp only [execOp, e71]; go_simp) (KS_mkv rfl rfl)
          · skip
            intro Q
            have e67 : a'.eval (.tmp 67) = .bool false := KS_val (hd.val 3 67 (by decide +kernel)) rfl
            have e72 : a'.eval (.tmp 72) = .bool false := KS_val (hd.val 8 72 (by decide +kernel)) rfl
            clear hd hk
            exact wp_value (.bool true) (by simp only [execOp, e67, e72]; go_simp) (KS_mkv rfl rfl)
          · skip
            intro Q
            have e73 : a'.eval (.tmp 73) = .bool true := KS_val (hd.val 9 73 (by decide +kernel)) rfl
            exact wp_value _ (by simp only [execOp, e73]; rfl) (KS_mkv rfl rfl)
          · skip
            have eg : a'.eval (.tmp 74) = .bool true := KS_val (hd.val 10 74 (by decide +kernel)) rfl
            refine ⟨74, true, rfl, eg, fun _ Q => ?_, fun h => absurd rfl h⟩
            refine wp_call 10 _ (run_enter 10 _ _ rfl (by kernel_rfl)) ?_
            simp only [List.map_toArray, List.map_nil]
            refine (lives_any _).mono ?_
            rintro e w5 ⟨rfl, hb5⟩
            exact ⟨_, rfl, KS_mkv rfl rfl, hb5⟩
          · skip
            intro Q
            have e74 : a'.eval (.tmp 74) = .bool true := KS_val (hd.val 10 74 (by decide +kernel)) rfl
            have e75 : a'.eval (.tmp 75) = .bool true := KS_val (hd.val 11 75 (by decide +kernel)) rfl
            clear hd hk
            exact wp_value (.bool true) (by simp only [execOp, e74, e75]; go_simp) (KS_mkv rfl rfl)
          · skip
            intro Q
            have e76 : a'.eval (.tmp 76) = .bool true := KS_val (hd.val 12 76 (by decide +kernel)) rfl
            exact wp_value _ (by simp only [execOp, e76]; rfl) (KS_mkv rfl rfl)
        · intro a' wz hsz hdf hk hall hg
          have L19 : Hid (Below w.heap.size w wz) := (show _ from LW.out.trans ((M20.out.trans (hg.mono M20.out.size)).mono LW.out.size))
          have e64 : a'.eval (.tmp 64) = .agg (RC r).toArray := KS_val (hall 0 _ 64 rfl rfl) rfl
          have e65 : a'.eval (.tmp 65) = .slice (some ⟨E17, 0, none⟩) 1 1 := KS_val (hall 1 _ 65 rfl rfl) rfl
          have e66 : a'.eval (.tmp 66) = .int .i64 (-1) := KS_val (hall 2 _ 66 rfl rfl) rfl
          have e67 : a'.eval (.tmp 67) = .bool false := KS_val (hall 3 _ 67 rfl rfl) rfl
          have e68 : a'.eval (.tmp 68) = .agg (RC o).toArray := KS_val (hall 4 _ 68 rfl rfl) rfl
          have e69 : a'.eval (.tmp 69) = .agg (RC r).toArray := KS_val (hall 5 _ 69 rfl rfl) rfl
          have r70 : (fun W v_ => RdR9 W v_ [r]) wz (a'.eval (.tmp 70)) := KS_of (hall 6 _ 70 rfl rfl) rfl
          obtain ⟨x70, hx70⟩ : ∃ v, a'.eval (.tmp 70) = v := ⟨_, rfl⟩
          rw [hx70] at r70
          have e71 : a'.eval (.tmp 71) = .int .i64 (-1) := KS_val (hall 7 _ 71 rfl rfl) rfl
          have e72 : a'.eval (.tmp 72) = .bool false := KS_val (hall 8 _ 72 rfl rfl) rfl
          have e73 : a'.eval (.tmp 73) = .bool true := KS_val (hall 9 _ 73 rfl rfl) rfl
          have e74 : a'.eval (.tmp 74) = .bool true := KS_val (hall 10 _ 74 rfl rfl) rfl
          have e75 : a'.eval (.tmp 75) = .bool true := KS_val (hall 11 _ 75 rfl rfl) rfl
          have e76 : a'.eval (.tmp 76) = .bool true := KS_val (hall 12 _ 76 rfl rfl) rfl
          have e6 : a'.eval (.tmp 6) = .bool true := KS_val (hall 13 _ 6 rfl rfl) rfl
          have ha := act_puts 77 rfl hsz hdf hk [64, 65, 66, 67, 68, 69, 70, 71, 72, 73, 74, 75, 76, 6] (by decide +kernel)
          simp only [puts, List.foldl_cons, List.foldl_nil, e64, e65, e66, e67, e68, e69, hx70, e71, e72, e73, e74, e75, e76, e6] at ha
          simp only [Act.put, List.setIfInBounds_toArray, List.set_cons_succ, List.set_cons_zero] at ha
          clear hall hk hsz hdf e64 e65 e66 e67 e68 e69 hx70 e71 e72 e73 e74 e75 e76 e6
          subst ha
          go_wp2_with fail
          go_ret
          exact ⟨rfl, L19.out⟩
#print axioms certifyWeaker_any
end Go.Proofs.Ythniaoacanabdaa
