/-
  Copy: what the call does.
-/
import Derived.Test.YtmicmbjbclkbjaaRcL
import Derived.Test.YtmicmbjbclkbjaaRcS
namespace Go.Proofs.Ytmicmbjbclkbjaa
open Go.RowKit
/-- A block of cells and a map are apart; so are blocks of different types. -/
theorem cells_ne {w : World} {k j : Nat} {cs cs' : Array Value} {T T' : TypeId} {p p' : Nat × Nat} (h : w.heap[k]? = some (.cells cs T p)) (h' : w.heap[j]? = some (.cells cs' T' p')) (hT : T ≠ T') : k ≠ j := fun e => by
  rw [e, h'] at h
  cases h
  exact hT rfl
theorem cs_set1 {α : Type} {E : Enc α} {R : List α} {i j : Nat} (h : i < R.length) (hj : j < E.n) {u : Value} {y : α} (hy : (E.c R[i]).set j u = E.c y) : (E.cs R).set (i * E.n + j) u = E.cs (R.set i y) := by
  have e : E.cs R = E.cs (R.take i) ++ (E.c R[i] ++ E.cs (R.drop (i + 1))) := by rw [← Enc.cs_cons, ← Enc.cs_append, ← List.drop_eq_getElem_cons h, List.take_append_drop]
  have hl : (E.cs (R.take i)).length = i * E.n := by rw [Enc.cs_length, List.length_take, Nat.min_eq_left (by omega)]
  rw [e, List.set_append_right _ _ (by rw [hl]; omega), hl, Nat.add_sub_cancel_left, List.set_append_left _ _ (by rw [E.len]; exact hj), hy, List.set_eq_take_append_cons_drop, if_pos h, Enc.cs_append, Enc.cs_cons]
set_option maxHeartbeats 1000000 in
set_option maxRecDepth 100000 in
theorem cloneR_any {w : World} {v : Value} {l : List Rz} (h : RdG XE w v l) (hl : l.length ≤ 1000000) :
    Calls Try.prog 30 #[v] w fun e w' => ∃ v', e = .returned v' ∧ OwnG XE w' w.heap.size 39 v' l ∧ Below w.heap.size w w' := by
  have HR := hide h
  obtain ⟨a, cap, rfl, h1, h2, h3, h4⟩ := h
  clear h4
  have hq := fun W => Lib.run_eql_slice_nil (P := Try.prog) W 24 39 a l.length cap 0 0 Try.underlying24
  obtain ⟨n, HN⟩ : ∃ n, Hid (l.length = n) := ⟨_, rfl⟩
  rw [HN.out] at HR h1 hl hq ⊢
  go_enter Try.func30, Try.ntmps30
  cases a with
  | none =>
    have hc0 := h3 rfl
    have hl0 : l = [] := List.eq_nil_of_length_eq_zero (by rw [HN.out]; omega)
    obtain rfl : n = 0 := by omega
    subst hl0 hc0
    simp only [Option.isNone_none] at hq ⊢
    go_wp2
    go_ret
    exact ⟨_, rfl, ownG_nil _ _ _, Below.refl _ _⟩
  | some x =>
    simp only [Option.isNone_some] at hq
    have A1 : Hid (Below w.heap.size w (w.alloc (.cells #[] 39 (0, 0)))) := (Below.refl _ _).alloc (Nat.le_refl _) _
    have O1 : Hid (OwnG XE (w.alloc (.cells #[] 39 (0, 0))) w.heap.size 39 (.slice (some ⟨w.heap.size, 0, none⟩) 0 0) []) := own_empty w w.heap.size 39 (Nat.le_refl _)
    have R1 := hide (HR.out.kept A1.out)
    have hb1 : Hid (([] : List Rz).length + l.length ≤ 10000000) := (show 0 + l.length ≤ 10000000 by rw [HN.out]; omega)
    go_wp2_with (first
      | (refine wpList_append_E (E := XE) Try.underlying24 infoX (by decide) rfl (.tmp 5) (.tmp 6) rfl w.heap.size (.slice (some ⟨w.heap.size, 0, none⟩) 0 0) [] rfl O1.out _ l rfl R1.out hb1.out A1.out.size ?_; intro v9 w9 o9 g9 q9; have O9 := hide o9; have G9 := hide g9; clear o9 g9 q9; obtain ⟨p9, c9, hv9⟩ := O9.out.form; obtain ⟨n2, hn2⟩ : ∃ k, ([] ++ l : List Rz).length = k := ⟨_, rfl⟩; rw [hn2] at hv9; subst hv9)
      | fail)
    go_ret
    refine ⟨_, rfl, O9.out, A1.out.trans ((Chg.of_grown (F := fun k => k = w.heap.size) G9.out (fun k e _ => by simpa [Value.ownBlock] using e.symm)).below A1.out.size (fun k hk e => by omega))⟩
/-- A read with its pairs elsewhere. -/
def Rz.at (x : Rz) (a : Option Addr) (c : Nat) : Rz := ⟨x.sc, x.k, x.t, x.ps, a, c⟩
theorem szs : ∀ W : World, (sizeOf 25).run Try.prog W = .ok 1 W := fun W => by kernel_rfl
/-- What copied has made so far: its own row, in which the first reads have pairs of their own. -/
structure CopX (w : World) (B : Nat) (v : Value) (Q L : List Rz) (i : Nat) : Prop where
  row : OwnG XE w B 39 v L
  pl : L.map plR = Q.map plR
  rest : L.drop i = Q.drop i
  own : ∀ y ∈ L.take i, OwnG PE w B 41 (xv y) y.ps
theorem CopX.step {w w1 w2 : World} {B g n cap i : Nat} {Q L : List Rz} {x : Rz} {p : Option Addr} {c : Nat} (h : CopX w B (.slice (some ⟨g, 0, none⟩) n cap) Q L i) (hi : i < L.length) (hx : L[i] = x) (hb : Below w.heap.size w w1) (ho : OwnG PE w1 w.heap.size 41 (.slice p x.ps.length c) x.ps) (hB : B ≤ w.heap.size)
    {cur : List Value} (hcur : Blk w1 g 39 cur) (htk : cur.take (L.length * 4) = XE.cs L) (hcl : cur.length = cap * 4) (hg : B ≤ g ∧ n ≤ cap ∧ cap ≤ maxLen) (h2 : Blk w2 g 39 (cur.set (i * 4 + 3) (.slice p x.ps.length c))) (hu : But g w1 w2) :
    CopX w2 B (.slice (some ⟨g, 0, none⟩) n cap) Q (L.set i (x.at p c)) (i + 1) := by
  have hln : L.length = n := h.row.rd.len
  have hC : Chg (fun k => k = g) w1 w2 := Chg.of_but hu rfl
  have hne : ∀ {w' : World} {B' : Nat} {v : Value} {l : List Pr}, OwnG PE w' B' 41 v l → Blk w' g 39 cur → ∀ k, v.ownBlock = some k → ¬ k = g := fun h hc k hk e => by
    obtain ⟨_, _, cu, h5⟩ := h.block hk
    exact cells_ne h5 hc (by decide) e
  have hpl : plR (x.at p c) = plR x := rfl
  refine ⟨?_, ?_, ?_, fun y hy => ?_⟩
  · have hs : (XE.c L[i]).set 3 (.slice p x.ps.length c) = XE.c (x.at p c) := by rw [hx]; rfl
    have e := cs_set1 (E := XE) hi (by decide : 3 < XE.n) hs
    have hfin := OwnG.of_blk (E := XE) (B := B) (cap := cap) (L := L.set i (x.at p c)) h2 hg.1 (by
      rw [List.length_set, show XE.n = 4 from rfl, List.take_set, htk]
      exact e) (by rw [List.length_set]; exact hcl) (by rw [List.length_set, hln]; exact hg.2.1) hg.2.2
    rw [List.length_set, hln] at hfin
    exact hfin
  · rw [← h.pl, List.map_set, hpl, ← hx]
    exact List.ext_getElem (by simp) (fun j h1 h3 => by
      rw [List.getElem_set]
      split
      · rename_i e
        subst e
        simp
      · rfl)
  · rw [List.drop_set_of_lt (by omega)]
    have h1 := congrArg (List.drop 1) h.rest
    rw [List.drop_drop, List.drop_drop] at h1
    exact h1
  · have hlt : i < (L.set i (x.at p c)).length := by rw [List.length_set]; exact hi
    rw [List.take_succ_eq_append_getElem hlt, List.getElem_set_self, List.take_set_of_le (Nat.le_refl i)] at hy
    rcases List.mem_append.1 hy with hy | hy
    · have h1 := (h.own y hy).kept hb
      exact h1.chg hC (hne h1 hcur)
    · rw [List.mem_singleton] at hy
      subst hy
      exact (ho.chg hC (hne ho hcur)).mono hB
theorem szrs : ∀ W : World, (sizeOf 24).run Try.prog W = .ok 1 W := fun W => by kernel_rfl
/-- A record in memory of its own. -/
structure OwnRc (w : World) (B : Nat) (r : Rc) : Prop where
  rs : OwnR9 w B (rv r) r.rs
  ws : OwnG PE w B 41 (wv r) r.ws
theorem OwnRc.kept {w w' : World} {B : Nat} {r : Rc} (h : OwnRc w B r) (hb : Below w.heap.size w w') : OwnRc w' B r := ⟨h.rs.kept hb, h.ws.kept hb⟩
theorem OwnRc.rd {w : World} {B : Nat} {r : Rc} (h : OwnRc w B r) : ROk w r := ⟨h.rs.rd, h.ws.rd⟩
theorem OwnRc.chg {w w' : World} {B g : Nat} {r : Rc} {T : TypeId} {cs : List Value} (h : OwnRc w B r) (hZ : Blk w g T cs) (hc : Chg (fun k => k = g) w w') (h1 : T ≠ 39 := by decide) (h2 : T ≠ 41 := by decide) : OwnRc w' B r := by
  have hx : ∀ {B' : Nat} {v : Value} {l : List Rz}, OwnG XE w B' 39 v l → ∀ k, v.ownBlock = some k → ¬ k = g := fun ho k hk e => by
    obtain ⟨_, _, cu, h5⟩ := ho.block hk
    exact cells_ne h5 hZ (fun e => h1 e.symm) e
  have hp : ∀ {B' : Nat} {v : Value} {l : List Pr}, OwnG PE w B' 41 v l → ∀ k, v.ownBlock = some k → ¬ k = g := fun ho k hk e => by
    obtain ⟨_, _, cu, h5⟩ := ho.block hk
    exact cells_ne h5 hZ (fun e => h2 e.symm) e
  exact ⟨⟨h.rs.row.chg hc (hx h.rs.row), fun y hy => (h.rs.ps y hy).chg hc (hp (h.rs.ps y hy))⟩, h.ws.chg hc (hp h.ws)⟩
/-- A record with its lists elsewhere. -/
def Rc.at (r : Rc) (L : List Rz) (a : Option Addr) (c : Nat) (a' : Option Addr) (c' : Nat) : Rc := ⟨r.ses, r.snap, r.st, L, r.ws, a, c, a', c'⟩
set_option maxHeartbeats 4000000 in
set_option maxRecDepth 100000 in
theorem jcopy_any {w : World} {r : Rc} (hr : ROk w r) (hl : LtR r) : Calls Try.prog 15 #[.agg (RC r).toArray] w fun e w' => ∃ r', e = .returned (.agg (RC r').toArray) ∧ OwnRc w' w.heap.size r' ∧ sameB r' r = true ∧ Below w.heap.size w w' := by
  obtain ⟨N, HN⟩ : ∃ N, Hid (w.heap.size = N) := ⟨_, rfl⟩
  obtain ⟨w1, hw1⟩ : ∃ z, z = (w.alloc (.cells (RC r).toArray 27 (0, 0))).alloc (.cells (RC zr).toArray 27 (0, 0)) := ⟨_, rfl⟩
  obtain ⟨b1, b2, l1⟩ := newB2 HN hw1
  have HW := hide hw1
  have RO := hide (hr.kept l1.out)
  have HLT := hide hl
  have hzr := zeroR
  obtain ⟨n, Hn⟩ : ∃ z, Hid (r.rs.length = z) := ⟨_, rfl⟩
  obtain ⟨m, Hm⟩ : ∃ z, Hid (r.ws.length = z) := ⟨_, rfl⟩
  have hn1 : n ≤ 100 := by rw [← Hn.out]; exact hl.rl
  have hm1 : m ≤ 100 := by rw [← Hm.out]; exact hl.wl
  have HPS : Hid (∀ x ∈ r.rs, x.ps.length ≤ 1000000) := (show _ from fun x hx => Nat.le_trans (hl.ps x hx) (by decide))
  have HXI : Hid (∀ x ∈ r.rs, RdG PE w (xv x) x.ps) := (show _ from fun x hx => hr.rs.ps x hx)
  have HNW : Hid (N ≤ w1.heap.size) := (show _ ≤ _ from Nat.le_of_lt b1.out.lt)
  have HR1 : Hid (∀ W, Below w1.heap.size w1 W → W.cell? ⟨N, 3, none⟩ = some (.slice r.ra n r.rc)) := (show ∀ W, _ from fun W hb => by rw [← Hn.out]; exact (b1.out.kept hb).rrs)
  have HR2 : Hid (∀ W, Below w1.heap.size w1 W → W.cell? ⟨N, 4, none⟩ = some (.slice r.wa m r.wc)) := (show ∀ W, _ from fun W hb => by rw [← Hm.out]; exact (b1.out.kept hb).rws)
  have CC : Hid (∀ W, Below w1.heap.size w1 W → Calls Try.prog 30 #[.slice r.ra n r.rc] W fun e w' => ∃ v', e = .returned v' ∧ OwnG XE w' W.heap.size 39 v' r.rs ∧ Below W.heap.size W w') := (show ∀ W, _ from fun W hb => by rw [← Hn.out]; exact cloneR_any (RO.out.kept hb).rs.rd (by rw [Hn.out]; omega))
  have CP : Hid (∀ W, Below w1.heap.size w1 W → Calls Try.prog 31 #[.slice r.wa m r.wc] W fun e w' => ∃ v', e = .returned v' ∧ OwnG PE w' W.heap.size 41 v' r.ws ∧ Below W.heap.size W w') := (show ∀ W, _ from fun W hb => by rw [← Hm.out]; exact cloneP_any (RO.out.kept hb).ws (by rw [Hm.out]; omega))
  clear hr hl hw1
  go_enter Try.func15, Try.ntmps15
  go_upto_region 1 with fail
  change Code.wp _ _ _ _ ((w.alloc (.cells (RC r).toArray 27 (0, 0))).alloc (.cells (RC zr).toArray 27 (0, 0)))
  rw [← HW.out, HN.out]
  refine wp_region_tails Try.mixed (KS (fun i_ => match i_ with | 0 | 6 => .val (.pointer (some ⟨N, 3, none⟩)) | 1 => .val (.slice r.ra n r.rc) | 2 => .of (fun W x => ∃ p c, x = .slice p n c ∧ OwnG XE W N 39 x r.rs) (fun _ _ _ hg ⟨p, c, e, h⟩ => ⟨p, c, e, h.kept hg⟩) | 3 => .val (.pointer (some ⟨N, 4, none⟩)) | 4 => .val (.slice r.wa m r.wc) | 5 => .of (fun W x => ∃ p c, x = .slice p m c ∧ OwnG PE W N 41 x r.ws) (fun _ _ _ hg ⟨p, c, e, h⟩ => ⟨p, c, e, h.kept hg⟩) | _ => .free)) 32 rfl (by decide +kernel) 7 (by decide) (by decide +kernel) (KS_mono _) ?_ ?_
  · refine AllFrom.cons ⟨rfl, fun a' w' hg hk hd => ?_⟩ (AllFrom.cons ⟨rfl, fun a' w' hg hk hd => ?_⟩ (AllFrom.cons ⟨rfl, fun a' w' hg hk hd => ?_⟩ (AllFrom.cons ⟨rfl, fun a' w' hg hk hd => ?_⟩ (AllFrom.cons ⟨rfl, fun a' w' hg hk hd => ?_⟩ (AllFrom.cons ⟨rfl, fun a' w' hg hk hd => ?_⟩ (AllFrom.cons ⟨rfl, fun a' w' hg hk hd => ?_⟩ AllFrom.nil))))))
    · skip
      intro Q
      have e1 : a'.eval (.tmp 1) = .pointer (some ⟨N, 0, none⟩) := hk.at 1 (by decide +kernel)
      clear hd hk
      exact wp_value (.pointer (some ⟨N, 3, none⟩)) (by simp only [execOp, e1]; go_simp) (KS_mkv rfl rfl)
    · skip
      intro Q
      have e4 : a'.eval (.tmp 4) = .pointer (some ⟨N, 3, none⟩) := KS_val (hd.val 0 4 (by decide +kernel)) rfl
      have hc := HR1.out _ hg
      clear hd hk
      exact wp_value (.slice r.ra n r.rc) (by simp only [execOp, e4]; go_simp) (KS_mkv rfl rfl)
    · skip
      intro Q
      have e5 : a'.eval (.tmp 5) = .slice r.ra n r.rc := KS_val (hd.val 1 5 (by decide +kernel)) rfl
      refine wp_call 30 _ (run_enter 30 _ _ rfl (by kernel_rfl)) ?_
      simp only [List.map_toArray, List.map_nil, List.map_cons, e5]
      refine (CC.out w' hg).mono ?_
      rintro e w5 ⟨v5, rfl, o5, b5⟩
      obtain ⟨p5, c5, h5⟩ := o5.form
      rw [Hn.out] at h5
      exact ⟨v5, rfl, KS_mko rfl ⟨p5, c5, h5, o5.mono (Nat.le_trans HNW.out hg.size)⟩, b5⟩
    · skip
      intro Q
      have e1 : a'.eval (.tmp 1) = .pointer (some ⟨N, 0, none⟩) := hk.at 1 (by decide +kernel)
      clear hd hk
      exact wp_value (.pointer (some ⟨N, 4, none⟩)) (by simp only [execOp, e1]; go_simp) (KS_mkv rfl rfl)
    · skip
      intro Q
      have e7 : a'.eval (.tmp 7) = .pointer (some ⟨N, 4, none⟩) := KS_val (hd.val 3 7 (by decide +kernel)) rfl
      have hc := HR2.out _ hg
      clear hd hk
      exact wp_value (.slice r.wa m r.wc) (by simp only [execOp, e7]; go_simp) (KS_mkv rfl rfl)
    · skip
      intro Q
      have e8 : a'.eval (.tmp 8) = .slice r.wa m r.wc := KS_val (hd.val 4 8 (by decide +kernel)) rfl
      refine wp_call 31 _ (run_enter 31 _ _ rfl (by kernel_rfl)) ?_
      simp only [List.map_toArray, List.map_nil, List.map_cons, e8]
      refine (CP.out w' hg).mono ?_
      rintro e w5 ⟨v5, rfl, o5, b5⟩
      obtain ⟨p5, c5, h5⟩ := o5.form
      rw [Hm.out] at h5
      exact ⟨v5, rfl, KS_mko rfl ⟨p5, c5, h5, o5.mono (Nat.le_trans HNW.out hg.size)⟩, b5⟩
    · skip
      intro Q
      have e1 : a'.eval (.tmp 1) = .pointer (some ⟨N, 0, none⟩) := hk.at 1 (by decide +kernel)
      clear hd hk
      exact wp_value (.pointer (some ⟨N, 3, none⟩)) (by simp only [execOp, e1]; go_simp) (KS_mkv rfl rfl)
  · intro a' w2 hsz hdf hk hall hg
    have L2 : Hid (Below w1.heap.size w1 w2) := (show Below _ _ _ from hg)
    clear hg
    have e4 : a'.eval (.tmp 4) = .pointer (some ⟨N, 3, none⟩) := KS_val (hall 0 _ 4 (by decide) rfl rfl) rfl
    have e5 : a'.eval (.tmp 5) = .slice r.ra n r.rc := KS_val (hall 1 _ 5 (by decide) rfl rfl) rfl
    have r6 := KS_of (hall 2 _ 6 (by decide) rfl rfl) rfl
    obtain ⟨x6, hx6⟩ : ∃ v, a'.eval (.tmp 6) = v := ⟨_, rfl⟩
    rw [hx6] at r6
    have e7 : a'.eval (.tmp 7) = .pointer (some ⟨N, 4, none⟩) := KS_val (hall 3 _ 7 (by decide) rfl rfl) rfl
    have e8 : a'.eval (.tmp 8) = .slice r.wa m r.wc := KS_val (hall 4 _ 8 (by decide) rfl rfl) rfl
    have r9 := KS_of (hall 5 _ 9 (by decide) rfl rfl) rfl
    obtain ⟨x9, hx9⟩ : ∃ v, a'.eval (.tmp 9) = v := ⟨_, rfl⟩
    rw [hx9] at r9
    have e10 : a'.eval (.tmp 10) = .pointer (some ⟨N, 3, none⟩) := KS_val (hall 6 _ 10 (by decide) rfl rfl) rfl
    obtain ⟨x11, hx11⟩ : ∃ v, a'.eval (.tmp 11) = v := ⟨_, rfl⟩
    have ha := act_puts 32 rfl hsz hdf hk [4, 5, 6, 7, 8, 9, 10, 11] (by decide +kernel)
    simp only [puts, List.foldl_cons, List.foldl_nil, e4, e5, hx6, e7, e8, hx9, e10, hx11] at ha
    simp only [Act.put, List.setIfInBounds_toArray, List.set_cons_succ, List.set_cons_zero] at ha
    clear hall hk hsz hdf e4 e5 hx6 e7 e8 hx9 e10 hx11
    subst ha
    obtain ⟨pa, ca, e6, o6⟩ := r6
    obtain ⟨pw, cw, e9, o9⟩ := r9
    subst e6 e9
    have O6 := hide o6
    have O9 := hide o9
    have B2 := hide (b1.out.kept L2.out)
    clear o6 o9
    refine wpSeq_store_sl rfl 24 szrs _ _ rfl N 3 27 (RC r) _ _ _ rfl rfl B2.out (show 3 < 5 by decide) ?_
    intro w3 hb3 hu3
    refine wpSeq_val rfl (.pointer (some ⟨N, 4, none⟩)) (by simp only [execOp]; go_simp) ?_
    refine wpSeq_store_sl rfl 25 szs _ _ rfl N 4 27 _ _ _ _ rfl rfl hb3 (show 4 < 5 by decide) ?_
    intro w4 hb4 hu4
    have HC4 : Hid (((RC r).set 3 (.slice pa n ca)).set 4 (.slice pw m cw) = [.int .i64 r.ses, .int .i64 r.snap, .bool r.st, .slice pa n ca, .slice pw m cw]) := (show _ = _ from rfl)
    rw [HC4.out] at hb4
    have B4 := hide hb4
    have C4 : Hid (Chg (fun k => k = N) w2 w4) := (show Chg _ _ _ from (Chg.of_but (F := fun k => k = N) hu3 rfl).trans (Chg.of_but hu4 rfl))
    have hneR : ∀ k, (Value.slice pa n ca).ownBlock = some k → ¬ k = N := fun k hk e => by
      obtain ⟨_, _, cu, h5⟩ := O6.out.block hk
      exact cells_ne h5 B2.out (by decide) e
    have hneW : ∀ k, (Value.slice pw m cw).ownBlock = some k → ¬ k = N := fun k hk e => by
      obtain ⟨_, _, cu, h5⟩ := O9.out.block hk
      exact cells_ne h5 B2.out (by decide) e
    have R4 := hide (O6.out.chg C4.out hneR)
    have W4 := hide (O9.out.chg C4.out hneW)
    have L4 : Hid (Below N w w4) := (show Below _ _ _ by
      have h1 : Below w.heap.size w w2 := l1.out.trans (L2.out.mono l1.out.size)
      rw [HN.out] at h1
      exact h1.trans (C4.out.below (by have := HNW.out; have := L2.out.size; omega) (fun k hk e => by omega)))
    have Z4 : Hid (Blk w4 (N + 1) 27 (RC zr)) := (show Blk _ _ _ _ from (b2.out.kept L2.out).chg C4.out (by omega))
    have HNB : Hid (∀ k, (Value.slice pa n ca).ownBlock = some k → ¬ k = N ∧ ¬ k = N + 1) := (show ∀ k, _ from fun k hk => by
      obtain ⟨_, _, cu, h5⟩ := R4.out.block hk
      exact ⟨cells_ne h5 B4.out (by decide), cells_ne h5 Z4.out (by decide)⟩)
    have HNBw : Hid (∀ k, (Value.slice pa n ca).ownBlock = some k → ∀ j, (Value.slice pw m cw).ownBlock = some j → ¬ j = k) := (show ∀ k, _ from fun k hk j hj => by
      obtain ⟨_, _, cu, h5⟩ := R4.out.block hk
      obtain ⟨_, _, cu2, h6⟩ := W4.out.block hj
      exact fun e => cells_ne h6 (show Blk w4 k 39 cu.toList from h5) (by decide) e)
    clear hb3 hu3 hb4 hu4 C4 hneR hneW O6 O9 B2
    simp only [wpSeq]
    have d3 := B4.out.cell (j := 3) rfl
    have X0 : Hid (CopX w4 N (.slice pa n ca) r.rs r.rs 0) := (show CopX _ _ _ _ _ _ from ⟨R4.out, rfl, rfl, fun y hy => by simp at hy⟩)
    have Y0 := B4
    have V0 := W4
    have Q0 := L4
    have U0 := Z4
    go_wp2_with fail
    clear d3
    go_loopg [15] (n + 1) (fun g z wr => ∃ (i : Nat) (L : List Rz), i ≤ n ∧ g + i = n + 1 ∧ z = .int .i64 (i : Int) ∧ Hid (CopX wr N (.slice pa n ca) r.rs L i) ∧ Hid (Blk wr N 27 [.int .i64 r.ses, .int .i64 r.snap, .bool r.st, .slice pa n ca, .slice pw m cw]) ∧ Hid (OwnG PE wr N 41 (.slice pw m cw) r.ws) ∧ Hid (Blk wr (N + 1) 27 (RC zr)) ∧ Hid (Below N w wr))
    case atStart => exact ⟨0, r.rs, Nat.zero_le _, by omega, rfl, X0, Y0, V0, U0, Q0⟩
    case round =>
      clear X0 Y0 V0 U0 Q0 R4 W4 L4 Z4 B4
      obtain ⟨i, L, hi, hg, rfl, XR, BR, WR, ZR, LR⟩ := hrel
      by_cases hlt : i < n
      · have hlt' : (i : Int) < (n : Int) := by omega
        have hLl : L.length = n := XR.out.row.rd.len
        have hiL : i < L.length := by omega
        have hiQ : i < r.rs.length := by rw [Hn.out]; exact hlt
        have HLQ : Hid (L[i] = r.rs[i]) := (show L[i] = r.rs[i] by
          have h1 := XR.out.rest
          rw [List.drop_eq_getElem_cons hiL, List.drop_eq_getElem_cons hiQ] at h1
          exact (List.cons.inj h1).1)
        obtain ⟨g', cap', cur, hv, hBg, hB, htk, hcl, hlc, hcm⟩ := XR.out.row.blk (by omega)
        simp only [Value.slice.injEq] at hv
        obtain ⟨rfl, -, rfl⟩ := hv
        obtain ⟨x, HX⟩ : ∃ x, Hid (r.rs[i] = x) := ⟨r.rs[i], (show r.rs[i] = r.rs[i] from rfl)⟩
        have hXO := RO.out.rs.ps _ (List.getElem_mem hiQ)
        have hXP := HPS.out _ (List.getElem_mem hiQ)
        rw [HX.out] at hXO hXP HLQ
        have HB := hide hB
        have HTK := hide htk
        have HCL := hide hcl
        have HF : Hid (N ≤ g' ∧ n ≤ ca ∧ ca ≤ maxLen) := (show _ ∧ _ ∧ _ from ⟨hBg, by omega, hcm⟩)
        obtain ⟨hgN, hgZ⟩ := HNB.out g' rfl
        obtain ⟨q, Hq⟩ : ∃ z, Hid (x.ps.length = z) := ⟨_, rfl⟩
        have HXS : Hid (xv x = .slice x.ha q x.hc) := (show _ = _ by unfold xv; rw [Hq.out])
        have cc : Hid (∀ W, Below wr.heap.size wr W → W.cell? ⟨g', i * 4 + 3, none⟩ = some (.slice x.ha q x.hc)) := (show ∀ W, _ from fun W hb => by
          refine (hB.kept hb).cell ?_
          have h1 : (XE.cs L)[i * 4 + 3]? = some (xv x) := Enc.cs_get (E := XE) hiL (by rw [HLQ.out]; rfl)
          rw [← htk] at h1
          rw [List.getElem?_take] at h1
          rw [← HXS.out]
          split at h1
          · exact h1
          · cases h1)
        have hbw : Below w.heap.size w wr := by rw [HN.out]; exact LR.out
        have HXR : Hid (∀ W, Below wr.heap.size wr W → Calls Try.prog 31 #[.slice x.ha q x.hc] W fun e w' => ∃ v', e = .returned v' ∧ OwnG PE w' W.heap.size 41 v' x.ps ∧ Below W.heap.size W w') := (show ∀ W, _ from fun W hb => by
          rw [← HXS.out]
          exact cloneP_any (RdG.kept (RdG.kept (HXI.out x (by rw [← HX.out]; exact List.getElem_mem hiQ)) hbw) hb) hXP)
        clear hXO hXP hbw hB htk hcl hBg hlc hcm
        go_upto_region 5 with fail
        try simp only [Act.put]
        refine wp_region_tails Try.mixed (KS (fun i_ => match i_ with | 0 | 3 => .val (.pointer (some ⟨N, 3, none⟩)) | 1 | 4 => .val (.slice (some ⟨g', 0, none⟩) n ca) | 2 | 5 => .val (.int .i64 (i : Int)) | 6 => .val (.pointer (some ⟨g', i * 4, none⟩)) | 7 => .val (.pointer (some ⟨g', i * 4 + 3, none⟩)) | 8 => .val (.slice x.ha q x.hc) | 9 => .of (fun W x_ => ∃ p c, x_ = .slice p q c ∧ OwnG PE W wr.heap.size 41 x_ x.ps) (fun _ _ _ hg ⟨p, c, e, h⟩ => ⟨p, c, e, h.kept hg⟩) | _ => .free)) 32 rfl (by decide +kernel) 10 (by decide) (by decide +kernel) (KS_mono _) ?_ ?_
        · refine AllFrom.cons ⟨rfl, fun a' w' hg hk hd => ?_⟩ (AllFrom.cons ⟨rfl, fun a' w' hg hk hd => ?_⟩ (AllFrom.cons ⟨rfl, fun a' w' hg hk hd => ?_⟩ (AllFrom.cons ⟨rfl, fun a' w' hg hk hd => ?_⟩ (AllFrom.cons ⟨rfl, fun a' w' hg hk hd => ?_⟩ (AllFrom.cons ⟨rfl, fun a' w' hg hk hd => ?_⟩ (AllFrom.cons ⟨rfl, fun a' w' hg hk hd => ?_⟩ (AllFrom.cons ⟨rfl, fun a' w' hg hk hd => ?_⟩ (AllFrom.cons ⟨rfl, fun a' w' hg hk hd => ?_⟩ (AllFrom.cons ⟨rfl, fun a' w' hg hk hd => ?_⟩ AllFrom.nil)))))))))
          · skip
            intro Q
            have e1 : a'.eval (.tmp 1) = .pointer (some ⟨N, 0, none⟩) := hk.at 1 (by decide +kernel)
            clear hd hk
            exact wp_value (.pointer (some ⟨N, 3, none⟩)) (by simp only [execOp, e1]; go_simp) (KS_mkv rfl rfl)
          · skip
            intro Q
            have e18 : a'.eval (.tmp 18) = .pointer (some ⟨N, 3, none⟩) := KS_val (hd.val 0 18 (by decide +kernel)) rfl
            have hc := (BR.out.kept hg).cell (j := 3) rfl
            clear hd hk
            exact wp_value (.slice (some ⟨g', 0, none⟩) n ca) (by simp only [execOp, e18]; go_simp) (KS_mkv rfl rfl)
          · skip
            intro Q
            have e3 : a'.eval (.tmp 3) = .int .i64 (i : Int) := hk.at 3 (by decide +kernel)
            exact wp_value _ (by simp only [execOp, e3]; rfl) (KS_mkv rfl rfl)
          · skip
            intro Q
            have e1 : a'.eval (.tmp 1) = .pointer (some ⟨N, 0, none⟩) := hk.at 1 (by decide +kernel)
            clear hd hk
            exact wp_value (.pointer (some ⟨N, 3, none⟩)) (by simp only [execOp, e1]; go_simp) (KS_mkv rfl rfl)
          · skip
            intro Q
            have e21 : a'.eval (.tmp 21) = .pointer (some ⟨N, 3, none⟩) := KS_val (hd.val 3 21 (by decide +kernel)) rfl
            have hc := (BR.out.kept hg).cell (j := 3) rfl
            clear hd hk
            exact wp_value (.slice (some ⟨g', 0, none⟩) n ca) (by simp only [execOp, e21]; go_simp) (KS_mkv rfl rfl)
          · skip
            intro Q
            have e3 : a'.eval (.tmp 3) = .int .i64 (i : Int) := hk.at 3 (by decide +kernel)
            exact wp_value _ (by simp only [execOp, e3]; rfl) (KS_mkv rfl rfl)
          · skip
            intro Q
            have e22 : a'.eval (.tmp 22) = .slice (some ⟨g', 0, none⟩) n ca := KS_val (hd.val 4 22 (by decide +kernel)) rfl
            have e23 : a'.eval (.tmp 23) = .int .i64 (i : Int) := KS_val (hd.val 5 23 (by decide +kernel)) rfl
            clear hd hk
            exact wp_value (.pointer (some ⟨g', i * 4, none⟩)) (by simp only [execOp, e22, e23]; go_simp) (KS_mkv rfl rfl)
          · skip
            intro Q
            have e24 : a'.eval (.tmp 24) = .pointer (some ⟨g', i * 4, none⟩) := KS_val (hd.val 6 24 (by decide +kernel)) rfl
            clear hd hk
            exact wp_value (.pointer (some ⟨g', i * 4 + 3, none⟩)) (by simp only [execOp, e24]; go_simp) (KS_mkv rfl rfl)
          · skip
            intro Q
            have e25 : a'.eval (.tmp 25) = .pointer (some ⟨g', i * 4 + 3, none⟩) := KS_val (hd.val 7 25 (by decide +kernel)) rfl
            have hc := cc.out _ hg
            clear hd hk
            exact wp_value (.slice x.ha q x.hc) (by simp only [execOp, e25]; go_simp) (KS_mkv rfl rfl)
          · skip
            intro Q
            have e26 : a'.eval (.tmp 26) = .slice x.ha q x.hc := KS_val (hd.val 8 26 (by decide +kernel)) rfl
            refine wp_call 31 _ (run_enter 31 _ _ rfl (by kernel_rfl)) ?_
            simp only [List.map_toArray, List.map_nil, List.map_cons, e26]
            refine (HXR.out w' hg).mono ?_
            rintro e w5 ⟨v5, rfl, o5, b5⟩
            obtain ⟨p5, c5, h5⟩ := o5.form
            rw [Hq.out] at h5
            exact ⟨v5, rfl, KS_mko rfl ⟨p5, c5, h5, o5.mono hg.size⟩, b5⟩
        · intro a' w5 hsz hdf hk hall hg2
          have L5 : Hid (Below wr.heap.size wr w5) := (show Below _ _ _ from hg2)
          clear hg2
          have e18 : a'.eval (.tmp 18) = .pointer (some ⟨N, 3, none⟩) := KS_val (hall 0 _ 18 (by decide) rfl rfl) rfl
          have e19 : a'.eval (.tmp 19) = .slice (some ⟨g', 0, none⟩) n ca := KS_val (hall 1 _ 19 (by decide) rfl rfl) rfl
          have e20 : a'.eval (.tmp 20) = .int .i64 (i : Int) := KS_val (hall 2 _ 20 (by decide) rfl rfl) rfl
          have e21 : a'.eval (.tmp 21) = .pointer (some ⟨N, 3, none⟩) := KS_val (hall 3 _ 21 (by decide) rfl rfl) rfl
          have e22 : a'.eval (.tmp 22) = .slice (some ⟨g', 0, none⟩) n ca := KS_val (hall 4 _ 22 (by decide) rfl rfl) rfl
          have e23 : a'.eval (.tmp 23) = .int .i64 (i : Int) := KS_val (hall 5 _ 23 (by decide) rfl rfl) rfl
          have e24 : a'.eval (.tmp 24) = .pointer (some ⟨g', i * 4, none⟩) := KS_val (hall 6 _ 24 (by decide) rfl rfl) rfl
          have e25 : a'.eval (.tmp 25) = .pointer (some ⟨g', i * 4 + 3, none⟩) := KS_val (hall 7 _ 25 (by decide) rfl rfl) rfl
          have e26 : a'.eval (.tmp 26) = .slice x.ha q x.hc := KS_val (hall 8 _ 26 (by decide) rfl rfl) rfl
          have r27 := KS_of (hall 9 _ 27 (by decide) rfl rfl) rfl
          obtain ⟨x27, hx27⟩ : ∃ v, a'.eval (.tmp 27) = v := ⟨_, rfl⟩
          rw [hx27] at r27
          obtain ⟨x28, hx28⟩ : ∃ v, a'.eval (.tmp 28) = v := ⟨_, rfl⟩
          obtain ⟨x29, hx29⟩ : ∃ v, a'.eval (.tmp 29) = v := ⟨_, rfl⟩
          have ha := act_puts 32 rfl hsz hdf hk [18, 19, 20, 21, 22, 23, 24, 25, 26, 27, 28, 29] (by decide +kernel)
          simp only [puts, List.foldl_cons, List.foldl_nil, e18, e19, e20, e21, e22, e23, e24, e25, e26, hx27, hx28, hx29] at ha
          simp only [Act.put, List.setIfInBounds_toArray, List.set_cons_succ, List.set_cons_zero] at ha
          clear hall hk hsz hdf e18 e19 e20 e21 e22 e23 e24 e25 e26 hx27 hx28 hx29
          subst ha
          obtain ⟨p5, c5, e5, o5⟩ := r27
          subst e5
          have O5 := hide o5
          clear o5
          have B5 : Hid (Blk w5 g' 39 cur) := (show Blk _ _ _ _ from HB.out.kept L5.out)
          have hcl2 : i * 4 + 3 < cur.length := by have h1 := HCL.out; have h2 := HF.out; simp only [show XE.n = 4 from rfl] at h1; omega
          refine wpSeq_val rfl (.pointer (some ⟨g', i * 4, none⟩)) (by simp only [execOp]; go_simp) ?_
          refine wpSeq_val rfl (.pointer (some ⟨g', i * 4 + 3, none⟩)) (by simp only [execOp]; go_simp) ?_
          refine wpSeq_store_sl rfl 25 szs _ _ rfl g' (i * 4 + 3) 39 cur _ _ _ rfl rfl B5.out hcl2 ?_
          intro w6 hb6 hu6
          have hNM : N ≤ wr.heap.size := by have := LR.out.size; have := HN.out; omega
          have X6 : Hid (CopX w6 N (.slice (some ⟨g', 0, none⟩) n ca) r.rs (L.set i (x.at p5 c5)) (i + 1)) := (show CopX _ _ _ _ _ _ from XR.out.step hiL HLQ.out L5.out (by rw [Hq.out]; exact O5.out) hNM B5.out (by have := HTK.out; exact this) HCL.out HF.out (by rw [Hq.out]; exact hb6) hu6)
          have C6 : Hid (Chg (fun k => k = g') w5 w6) := (show Chg _ _ _ from Chg.of_but hu6 rfl)
          have L6 : Hid (Below N w w6) := (show Below _ _ _ from (LR.out.trans (L5.out.mono hNM)).trans (C6.out.below (by have := L5.out.size; omega) (fun k hk e => by have := HF.out.1; omega)))
          have B6 := hide ((BR.out.kept L5.out).chg C6.out (fun e => hgN e.symm))
          have Z6 := hide ((ZR.out.kept L5.out).chg C6.out (fun e => hgZ e.symm))
          have W6 := hide ((WR.out.kept L5.out).chg C6.out (fun k hk => HNBw.out g' rfl k hk))
          simp only [wpSeq]
          clear hb6 hu6 hcl2
          go_wp2_with fail
          go_roundg (n - i)
          case measure => omega
          case rel => exact ⟨i + 1, L.set i (x.at p5 c5), by omega, by omega, by go_num, X6, B6, W6, Z6, L6⟩
      · obtain rfl : i = n := by omega
        have hlt' : ¬ (i : Int) < i := by omega
        have hLl : L.length = i := XR.out.row.rd.len
        obtain ⟨r9, Hr9⟩ : ∃ z, Hid (r.at L pa ca pw cw = z) := ⟨_, rfl⟩
        have HC9 : Hid ([.int .i64 r.ses, .int .i64 r.snap, .bool r.st, .slice pa i ca, .slice pw m cw] = RC r9) := (show _ = _ by rw [← Hr9.out]; unfold RC Rc.at; simp only [hLl, Hm.out])
        have HS9 : Hid (sameB r9 r = true) := (show _ = _ by
          rw [← Hr9.out]
          unfold sameB Rc.at
          simp only [decide_true, Bool.true_and, Bool.and_true]
          exact eqX_iff.2 XR.out.pl)
        have HO9 : Hid (OwnRc wr N r9) := (show OwnRc _ _ _ by
          rw [← Hr9.out]
          refine ⟨⟨?_, fun y hy => XR.out.own y (by rw [List.take_of_length_le (by omega)]; exact hy)⟩, ?_⟩
          · show OwnG XE wr N 39 (.slice pa L.length ca) L
            rw [hLl]
            exact XR.out.row
          · show OwnG PE wr N 41 (.slice pw r.ws.length cw) r.ws
            rw [Hm.out]
            exact WR.out)
        rw [HC9.out] at BR
        clear HC9 Hr9 hLl
        obtain ⟨w7, hw7⟩ : ∃ y, y = wr.setRow (N + 1) (RC r9).toArray := ⟨_, rfl⟩
        have rk := BR.out.range0
        go_wp2_with (first
          | (refine wpList_load_mid rfl 27 _ rfl N 0 rfl (RC r9) _ rk Try.underlying27 rfl Try.size27 ?_)
          | (refine wpList_store_blk rfl 27 (.tmp 2) (.tmp 31) rfl (N + 1) (RC zr) (RC r9) 27 rfl rfl ZR.out rfl Try.size27 (RC_one r9) ?_; intro w8 hb8 hu8)
          | fail)
        refine bodyPost_ret (ret_rec rfl _ _ (N + 1) r9 rfl hb8) rfl ⟨r9, rfl, ?_, HS9.out, ?_⟩
        · rw [HN.out]
          exact HO9.out.chg ZR.out (Chg.of_but hu8 rfl)
        · rw [HN.out]
          exact LR.out.trans (hu8.below (by omega) (by have := LR.out.size; have := ZR.out.lt; omega))
#print axioms jcopy_any
end Go.Proofs.Ytmicmbjbclkbjaa
