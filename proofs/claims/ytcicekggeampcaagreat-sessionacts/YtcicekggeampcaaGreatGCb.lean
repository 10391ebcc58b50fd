/-
  Texts that ride together: ChF ChG ChH ChI ChJ ChK ChQ.
-/
import Derived.Test.YtcicekggeampcaaGreatGCa
import Derived.Test.YtcicekggeampcaaGreatGG
import Derived.Laws.StructEq
/-
  The reference's Since, Cut, and plain: what the calls do.
-/
namespace Go.Proofs.YtcicekggeampcaaGreat
open Go.RowKit

theorem take_snoc {L : List Ver} {i : Nat} (h : i < L.length) : L.take (i + 1) = L.take i ++ [L[i]] := List.take_succ_eq_append_getElem h
theorem upto_snoc (n : Int) (M : List Ver) (v : Ver) : upto n (M ++ [v]) = upto n M ++ if v.1 ≤ n then [v] else [] := by
  unfold upto
  rw [List.filter_append]
  congr 1
  by_cases h : v.1 ≤ n <;> simp [h]

theorem build1 (p : Ver) (W : World) : (Instr.buildSlice 119 1 #[(0, .agg (VC p).toArray)]).run Tryz.prog W = .ok (.slice (some ⟨W.heap.size, 0, none⟩) 1 1) (W.alloc (.cells (VC p).toArray 140 (0, 0))) := by
  kernel_rfl
theorem wpList_build1 {ops : Array Oper} {rest : List Oper} {op : Oper} {a : Act} {w : World} {Q : Exit → Act → World → Prop} (hgd : op.guard = none) (x : Operand) (ho : op.op = .buildSlice 119 1 #[(0, x)]) (p : Ver) (hx : a.eval x = .agg (VC p).toArray)
    (h : wpList Tryz.prog ops Q rest (a.put op.dst (.slice (some ⟨w.heap.size, 0, none⟩) 1 1)) (w.alloc (.cells (VC p).toArray 140 (0, 0)))) : wpList Tryz.prog ops Q (op :: rest) a w := by
  refine wpList_plain hgd fun K hK => ?_
  have hr := build1 p w
  unfold Oper.wp execOp
  simp only [ho, hx, hr, List.map_toArray, List.map_cons, List.map_nil, Sem.run_bind, Sem.run_pure, Result.andThen_ok]
  exact hK _ _ h
/-- append(out, v). -/
theorem src_one (P : Program) (W : World) (p : Ver) (T t e : TypeId) (hk : P.underlying t = some (.slice e)) : Src P 3 t (.slice (some ⟨W.heap.size, 0, none⟩) 1 1) [p].length (VCs [p]) (W.alloc (.cells (VC p).toArray T (0, 0))) :=
  RdV.src (L := [p]) (rdV_one W T p) t e hk

end Go.Proofs.YtcicekggeampcaaGreat

/-
  The reference's Get: what the call does.
-/
namespace Go.Proofs.YtcicekggeampcaaGreat
open Go.RowKit

/-- What the loop holds: the last one, or none. -/
def lastOr (M : List Ver) : Ver := M.getLast?.getD zv
theorem lastOr_snoc (M : List Ver) (v : Ver) : lastOr (M ++ [v]) = v := by simp [lastOr]
theorem lastOr_some {M : List Ver} (h : M ≠ []) : M.getLast? = some (lastOr M) := by
  unfold lastOr
  cases e : M.getLast? with
  | none => exact absurd (List.getLast?_eq_none_iff.1 e) h
  | some v => rfl

set_option maxHeartbeats 2000000 in
set_option maxRecDepth 100000 in
theorem kget_any {w : World} {v : Value} {L : List Ver} (h : RdV w v L) (snap : Int) :
    Calls Tryz.prog 80 #[v, .int .i64 snap] w fun e w' => e = .returned (.tuple #[.agg (VC (getP L snap).1).toArray, .bool (getP L snap).2]) ∧ Below w.heap.size w w' := by
  have HL := hide h
  obtain ⟨a, cp, rfl⟩ := h.slice
  have hn : L.length ≤ 9223372036854775807 := Nat.le_trans h.cap h.max
  clear h
  have hz := Zrver
  obtain ⟨n, HN⟩ : ∃ n, Hid (L.length = n) := ⟨_, rfl⟩
  rw [HN.out] at HL hn ⊢
  have B1 := hide (Blk.new w 140 (VC zv))
  have L1 := hide ((Below.refl w.heap.size w).alloc (Nat.le_refl _) (.cells (VC zv).toArray 140 (0, 0)))
  go_enter Tryz.func80, Tryz.ntmps80
  go_wp2_with fail
  refine (kgood_any (HL.out.kept L1.out)).mono ?_
  rintro e w5 ⟨rfl, hb5⟩
  obtain ⟨G, HG⟩ : ∃ G, Hid (w.heap.size = G) := ⟨_, rfl⟩
  have L5 : Hid (Below w.heap.size w w5) := L1.out.trans (hb5.mono L1.out.size)
  have B5 : Hid (Blk w5 G 140 (VC zv)) := (show Blk _ _ _ _ by rw [← HG.out]; exact B1.out.kept hb5)
  rw [HG.out]
  clear hb5 B1 L1
  obtain ⟨q, HQ⟩ : ∃ q, Hid (gd 0 L = q) := ⟨_, rfl⟩
  rw [HQ.out]
  cases q with
  | false =>
    have HF := hide (getP_bad HQ.out snap)
    go_wp2_with (first
      | (refine wpList_buildK rfl 140 #[] rfl (.agg (VC zv).toArray) (by kernel_rfl) ?_)
      | (refine wpList_store_ver rfl 140 _ _ rfl G zv zv rfl rfl 140 B5.out Tryz.size140 ?_; intro w7 B7 T7)
      | fail)
    refine bodyPost_ret (results_ver rfl _ _ G zv false 140 _ rfl rfl B7.out Tryz.underlying140 rfl Tryz.size140) rfl ⟨by rw [HF.out], ?_⟩
    exact L5.out.trans ((T7.out.below (by rw [← HG.out]; exact Nat.le_refl _) L5.out.size))
  | true =>
    have X6 := hide (Blk.new w5 140 (VC zv))
    have L6 : Hid (Below w.heap.size w (w5.alloc (.cells (VC zv).toArray 140 (0, 0)))) := L5.out.trans (((Below.refl _ _).alloc (Nat.le_refl _) _).mono L5.out.size)
    have G6 : Hid (Blk (w5.alloc (.cells (VC zv).toArray 140 (0, 0))) G 140 (VC zv)) := B5.out.alloc _
    obtain ⟨X, HX⟩ : ∃ X, Hid (w5.heap.size = X) := ⟨_, rfl⟩
    have HGX : Hid (G < X) := (show G < X by rw [← HX.out]; exact B5.out.lt)
    have HwX : Hid (w.heap.size ≤ X) := (show _ ≤ _ by rw [← HX.out]; exact L5.out.size)
    go_upto_region 4 with (first
      | (refine wpList_buildK rfl 140 #[] rfl (.agg (VC zv).toArray) (by kernel_rfl) ?_)
      | (refine wpList_store_new rfl 140 _ _ rfl w5 _ (VC zv).toArray _ rfl rfl rfl Tryz.size140 rfl (all_one (VC_one zv)) ?_)
      | fail)
    rw [HX.out] at X6 ⊢
    generalize w5.alloc (.cells (VC zv).toArray 140 (0, 0)) = w6 at X6 L6 G6 ⊢
    clear B5 L5
    go_wp2_with fail
    go_loopg [7, 17] n (fun g y x wr => ∃ (i : Nat), g + i = n ∧ x = .int .i64 (i : Int) ∧ y = .bool (!(upto snap (L.take i)).isEmpty) ∧ Hid (Blk wr X 140 (VC (lastOr (upto snap (L.take i))))) ∧ Hid (Blk wr G 140 (VC zv)) ∧ Hid (Below w.heap.size w wr))
    case atStart => exact ⟨0, by omega, rfl, rfl, X6, G6, L6⟩
    case round =>
      clear X6 L6 G6
      obtain ⟨i, hgi, rfl, rfl, XR, GR, LR⟩ := hrel
      by_cases hlt : i < n
      · have q2 : (i : Int) < (n : Int) := by omega
        obtain ⟨b, off, rfl, hlb, hx⟩ := (HL.out.kept LR.out).nth (by omega)
        have hlt' : i < L.length := by rw [HN.out]; exact hlt
        have hr := hx i hlt'
        obtain ⟨p, HP⟩ : ∃ p, Hid (L[i] = p) := ⟨L[i], (show L[i] = L[i] from rfl)⟩
        rw [HP.out] at hr
        clear hx
        go_upto_region 7 with (first
          | (refine wpList_load_mid rfl 140 _ rfl b (off + i * 3) rfl (VC p) _ hr Tryz.underlying140 rfl Tryz.size140 ?_)
          | (refine wpList_store_new rfl 140 _ _ rfl wr _ (VC p).toArray _ rfl rfl rfl Tryz.size140 rfl (all_one (VC_one p)) ?_)
          | fail)
        obtain ⟨E, HE⟩ : ∃ E, Hid (wr.heap.size = E) := ⟨_, rfl⟩
        rw [HE.out]
        obtain ⟨w4, hw4⟩ : ∃ x, x = wr.alloc (.cells (VC p).toArray 140 (0, 0)) := ⟨_, rfl⟩
        rw [← hw4]
        have G4 : Hid (Below wr.heap.size wr w4) := (show Below _ _ _ by rw [hw4]; exact (Below.refl _ _).alloc (Nat.le_refl _) _)
        have L4 : Hid (Below w.heap.size w w4) := LR.out.trans (G4.out.mono LR.out.size)
        have B4 : Hid (Blk w4 E 140 (VC p)) := (show Blk _ _ _ _ by rw [hw4, ← HE.out]; exact Blk.new wr 140 (VC p))
        clear hw4 hr
        have c0 := B4.out.cell (j := 0) rfl
        have X4 : Hid (Blk w4 X 140 (VC (lastOr (upto snap (L.take i))))) := XR.out.kept G4.out
        have GG4 : Hid (Blk w4 G 140 (VC zv)) := GR.out.kept G4.out
        have HXE : Hid (X < E) := (show X < E by rw [← HE.out]; exact XR.out.lt)
        have HS : Hid (upto snap (L.take (i + 1)) = upto snap (L.take i) ++ if p.1 ≤ snap then [p] else []) := (show _ = _ by
          rw [take_snoc hlt', upto_snoc, HP.out])
        generalize upto snap (L.take i) = M at XR X4 HS ⊢
        by_cases hx : p.1 ≤ snap
        · rw [if_pos hx] at HS
          have q3 : decide (p.1 ≤ snap) = true := by simp [hx]
          have R4 := B4.out.range0
          go_wp2_with (first
            | (refine wpList_load_mid rfl 140 _ rfl E 0 rfl (VC p) _ R4 Tryz.underlying140 rfl Tryz.size140 ?_)
            | (refine wpList_store_ver rfl 140 _ _ rfl X p _ rfl rfl 140 X4.out Tryz.size140 ?_; intro w7 B7 T7)
            | fail)
          have L7 : Hid (Below w.heap.size w w7) := L4.out.trans (T7.out.below HwX.out L4.out.size)
          have G7 : Hid (Blk w7 G 140 (VC zv)) := GG4.out.but T7.out (Nat.ne_of_lt HGX.out)
          go_roundg (gk - 1)
          case measure => omega
          case rel => exact ⟨i + 1, by omega, by go_num, (by rw [HS.out]; simp), (show Blk _ _ _ _ by rw [HS.out, lastOr_snoc]; exact B7.out), G7, L7⟩
        · rw [if_neg hx, List.append_nil] at HS
          have q3 : decide (p.1 ≤ snap) = false := by simp; omega
          go_wp2_with fail
          go_roundg (gk - 1)
          case measure => omega
          case rel => exact ⟨i + 1, by omega, by go_num, (by rw [HS.out]), (show Blk _ _ _ _ by rw [HS.out]; exact X4.out), GG4, L4⟩
      · obtain rfl : i = n := by omega
        have q2 : ¬ (i : Int) < (i : Int) := by omega
        rw [List.take_of_length_le (by rw [HN.out]; exact Nat.le_refl _)] at XR ⊢
        have HE0 := hide (fun (he : upto snap L = []) => getP_none (n := snap) HQ.out (by rw [he]; rfl))
        have HE1 := hide (fun (he : upto snap L ≠ []) => getP_some HQ.out (lastOr_some he))
        generalize upto snap L = M at XR HE0 HE1 ⊢
        cases M with
        | nil =>
          have HF := hide (HE0.out rfl)
          go_wp2_with (first
            | (refine wpList_buildK rfl 140 #[] rfl (.agg (VC zv).toArray) (by kernel_rfl) ?_)
            | (refine wpList_store_ver rfl 140 _ _ rfl G zv zv rfl rfl 140 GR.out Tryz.size140 ?_; intro w7 B7 T7)
            | fail)
          refine bodyPost_ret (results_ver rfl _ _ G zv false 140 _ rfl rfl B7.out Tryz.underlying140 rfl Tryz.size140) rfl ⟨by rw [HF.out], ?_⟩
          exact LR.out.trans ((T7.out.below (by rw [← HG.out]; exact Nat.le_refl _) LR.out.size))
        | cons m M =>
          have HF1 := hide (HE1.out (by simp))
          have e5 : (!(m :: M).isEmpty) = true := rfl
          rw [e5]
          generalize lastOr (m :: M) = p at XR HF1
          obtain ⟨x, s, d⟩ := p
          have c2 := XR.out.cell (j := 2) rfl
          simp only at c2
          have R4 := XR.out.range0
          clear HE0 HE1
          cases d with
          | true =>
            have HF : Hid (getP L snap = (zv, false)) := HF1.out
            go_wp2_with (first
              | (refine wpList_buildK rfl 140 #[] rfl (.agg (VC zv).toArray) (by kernel_rfl) ?_)
              | (refine wpList_store_ver rfl 140 _ _ rfl G zv zv rfl rfl 140 GR.out Tryz.size140 ?_; intro w7 B7 T7)
              | fail)
            refine bodyPost_ret (results_ver rfl _ _ G zv false 140 _ rfl rfl B7.out Tryz.underlying140 rfl Tryz.size140) rfl ⟨by rw [HF.out], ?_⟩
            exact LR.out.trans ((T7.out.below (by rw [← HG.out]; exact Nat.le_refl _) LR.out.size))
          | false =>
            have HF : Hid (getP L snap = ((x, s, false), true)) := HF1.out
            go_wp2_with (first
              | (refine wpList_load_mid rfl 140 _ rfl X 0 rfl (VC (x, s, false)) _ R4 Tryz.underlying140 rfl Tryz.size140 ?_)
              | (refine wpList_store_ver rfl 140 _ _ rfl G (x, s, false) zv rfl rfl 140 GR.out Tryz.size140 ?_; intro w7 B7 T7)
              | fail)
            refine bodyPost_ret (results_ver rfl _ _ G (x, s, false) true 140 _ rfl rfl B7.out Tryz.underlying140 rfl Tryz.size140) rfl ⟨by rw [HF.out], ?_⟩
            exact LR.out.trans ((T7.out.below (by rw [← HG.out]; exact Nat.le_refl _) LR.out.size))
end Go.Proofs.YtcicekggeampcaaGreat

/-
  Versions held against each other; the reference's Same and Put: what the calls do.
-/
namespace Go.Proofs.YtcicekggeampcaaGreat
open Go.RowKit

end Go.Proofs.YtcicekggeampcaaGreat

/-
  The reference's Put: what the call does.
-/
namespace Go.Proofs.YtcicekggeampcaaGreat
open Go.RowKit

theorem ownV_none (w : World) (B : Nat) (e : TypeId) (hB : B ≤ w.heap.size) : OwnV (w.alloc (.cells #[] e (0, 0))) B e (.slice (some ⟨w.heap.size, 0, none⟩) 0 0) [] :=
  ⟨rfl, .inr ⟨w.heap.size, 0, #[], rfl, hB, heap_alloc_new w _, Nat.le_refl _, by simp [maxLen], rfl, rfl⟩⟩
/-- append onto a row of no room. -/
theorem run_append_fresh {P : Program} (w : World) (base : Nat) (t tx ty e : TypeId) (i : TypeInfo) (ht : P.underlying t = some (.slice e)) (hi : P.info? e = some i) (hz : i.zero = some (.agg (VC zv).toArray)) (hsize : i.size = 3) (hby : i.bytes = 32)
    (g : Addr) (hown : OwnV w base e (.slice (some g) 0 0) []) (x : Value) (M : List Ver) (hs : Src P 3 tx x M.length (VCs M) w) (hlen : M.length ≤ 4398046511104) (hbase : base ≤ w.heap.size) :
    ∃ v' w', (Builtin.append_ #[t, tx] ty #[.slice (some g) 0 0, x]).run P w = .ok v' w' ∧ OwnV w' base e v' M ∧ Below w.heap.size w w' := by
  by_cases hm : M.length = 0
  · have hM : M = [] := List.eq_nil_of_length_eq_zero hm
    subst hM
    refine ⟨.slice (some g) 0 0, w, ?_, hown, Below.refl _ _⟩
    have h1 := hs.len
    have h2 := hs.cells
    simp only [List.length_nil, VCs_nil] at h1 h2
    rcases hs.kind with ⟨e', hk⟩ | hk <;> simp [Builtin.append_, run_underlying ht, run_underlying hk, sizeOf, typeInfo, hi, h1, h2, hsize, storeCells]
  · have hs' : Src P i.size tx x M.length (VCs M) w := by rw [hsize]; exact hs
    have hgrow := fun b hold => run_append_grow_src (P := P) w t tx ty e i _ ht hi hz b 0 0 [] hold x M.length (VCs M) hs' (by omega) (by omega) (growslice_fits (by omega) (by rw [hby]; omega))
    have r1 := hgrow (some g) (run_firstCells_some w.drew i.size 0 g 0 0 [] (by simp) (by simp))
    have r2 := hgrow none (run_firstCells_none w.drew i.size 0 0 0)
    obtain ⟨v', w', hr, h2, h3⟩ := run_append_mine (P := P) w base t tx ty e i _ 3 32 ht hi hz hsize hby rfl (.slice none 0 0) 0 [] (World.ownsRow_nil w base e 3) x M.length (VCs M) hs (by simp only [maxLen]; omega) (by omega) hbase
    refine ⟨v', w', by rw [r1, ← hr, r2], ?_, ?_⟩
    · unfold OwnV
      simpa using h2
    · exact (Below.refl _ w).grown h3 (Nat.le_refl _) (fun k hk => by simp [Value.ownBlock] at hk)
theorem build0 (W : World) : (Instr.buildSlice 119 0 #[]).run Tryz.prog W = .ok (.slice (some ⟨W.heap.size, 0, none⟩) 0 0) (W.alloc (.cells #[] 140 (0, 0))) := by
  kernel_rfl
/-- What the operations of append(append([]Version{}, c...), v) yield. -/
def putS (B : Nat) (u : Value) (L : List Ver) (v : Ver) (i : Nat) (w : World) (x : Value) : Prop := match i with
  | 0 => ∃ g, x = .slice (some g) 0 0 ∧ OwnV w B 140 x []
  | 1 => x = u
  | 2 => OwnV w B 140 x L
  | 3 => x = .agg (VC v).toArray
  | 4 => RdV w x [v]
  | _ => True
theorem putS_mono (B : Nat) (u : Value) (L : List Ver) (v : Ver) : ∀ i w w' x, Gr w w' → putS B u L v i w x → putS B u L v i w' x := by
  intro i w w' x hg h
  match i with
  | 0 => obtain ⟨g, h1, h2⟩ := h; exact ⟨g, h1, OwnV.kept h2 hg⟩
  | 1 => exact h
  | 2 => exact OwnV.kept h hg
  | 3 => exact h
  | 4 => exact RdV.kept h hg
  | _ + 5 => exact trivial

end Go.Proofs.YtcicekggeampcaaGreat

/-
  The reference's Trim: what the call does.
-/
namespace Go.Proofs.YtcicekggeampcaaGreat
open Go.RowKit

/-- Where what is left begins. -/
def fstP (L : List Ver) (n : Int) : Nat := match (upto n L).getLast? with
  | none => 0
  | some v => if v.2.2 = true then (upto n L).length else (upto n L).length - 1
theorem trimP_drop {L : List Ver} {n : Int} (h : gd 0 L = true) : trimP L n = L.drop (fstP L n) := by
  cases e : (upto n L).getLast? with
  | none =>
    have hu : upto n L = [] := List.getLast?_eq_none_iff.1 e
    rw [trimP_none h (by rw [hu]; rfl)]
    unfold fstP
    rw [e]
  | some v =>
    unfold fstP
    rw [e]
    cases hd : v.2.2 with
    | true => rw [trimP_dead h e hd]; simp [hd]
    | false => rw [trimP_live h e hd]; simp [hd]
theorem fst_le (L : List Ver) (n : Int) : fstP L n ≤ (upto n L).length ∧ (upto n L).length ≤ fstP L n + 1 := by
  unfold fstP
  cases e : (upto n L).getLast? with
  | none =>
    have hu : upto n L = [] := List.getLast?_eq_none_iff.1 e
    rw [hu]
    simp
  | some v =>
    simp only
    split <;> omega
/-- Is one of those behind place i at most n? -/
theorem later_at {L : List Ver} (hr : Rise L) (n : Int) (i : Nat) : ((L.drop (i + 1)).any fun v => decide (v.1 ≤ n)) = decide (i + 1 < (upto n L).length) := by
  have hul := upto_le n L
  rw [Bool.eq_iff_iff, List.any_eq_true, decide_eq_true_eq]
  constructor
  · rintro ⟨v, hv, hle⟩
    simp only [decide_eq_true_eq] at hle
    obtain ⟨j, hj, rfl⟩ := List.getElem_of_mem hv
    rw [List.length_drop] at hj
    rw [List.getElem_drop] at hle
    have := upto_at (n := n) hr (i := i + 1 + j) (by omega)
    rw [decide_eq_decide] at this
    omega
  · intro h
    have := upto_at (n := n) hr (i := i + 1) (by omega)
    rw [decide_eq_decide] at this
    refine ⟨L[i + 1]'(by omega), ?_, ?_⟩
    · rw [drop_cons (by omega : i + 1 < L.length)]
      exact List.mem_cons_self
    · simp only [decide_eq_true_eq]
      omega
theorem take_drop_snoc {L : List Ver} {i : Nat} (f : Nat) (h : i < L.length) : (L.take (i + 1)).drop f = (L.take i).drop f ++ if f ≤ i then [L[i]] else [] := by
  rw [take_snoc h, List.drop_append, List.length_take, Nat.min_eq_left (by omega)]
  congr 1
  by_cases hf : f ≤ i
  · rw [if_pos hf, show f - i = 0 by omega]
    rfl
  · rw [if_neg hf, List.drop_of_length_le (by simp; omega)]
/-- The one that is left first: is it dead, and at most n? -/
theorem first_at {L : List Ver} (h : gd 0 L = true) {n : Int} {i : Nat} (hi : i < L.length) (hl : (upto n L).length ≤ i + 1) : (((L.take i).drop (fstP L n)).isEmpty && (L[i].2.2 && decide (L[i].1 ≤ n))) = decide (i < fstP L n) := by
  have hr := (gd_rise h).1
  have ha := upto_at (n := n) hr hi
  rw [decide_eq_decide] at ha
  obtain ⟨hf1, hf2⟩ := fst_le L n
  by_cases hu : (upto n L).length ≤ i
  · have e : decide (L[i].1 ≤ n) = false := by simp; omega
    rw [e]
    simp
    omega
  · have e : (upto n L).length = i + 1 := by omega
    have hlast := upto_last' (n := n) hr (by omega)
    rw [e, Nat.add_sub_cancel, List.getElem?_eq_getElem hi] at hlast
    have e1 : decide (L[i].1 ≤ n) = true := by simp; omega
    have e2 : (L.take i).drop (fstP L n) = [] := List.drop_of_length_le (by rw [List.length_take]; omega)
    rw [e1, e2]
    unfold fstP
    rw [hlast, e]
    cases hd : L[i].2.2 <;> simp [hd]

set_option maxHeartbeats 4000000 in
set_option maxRecDepth 100000 in
theorem ktrim_any {w : World} {v : Value} {L : List Ver} (h : RdV w v L) (hl : L.length ≤ 4398046511104) (snap : Int) :
    Calls Tryz.prog 66 #[v, .int .i64 snap] w fun e w' => ∃ v', e = .returned v' ∧ OwnV w' w.heap.size 140 v' (trimP L snap) ∧ Below w.heap.size w w' := by
  obtain ⟨i0, hi0, hz0, hz1, hz2⟩ := info_parts Tryz.info140
  have hcap : ∀ a n cp, v = .slice a n cp → n ≤ cp := fun a n cp e => by subst e; exact h.cap
  have HL := hide h
  obtain ⟨a, cp, rfl⟩ := h.slice
  have hn : L.length ≤ 9223372036854775807 := Nat.le_trans h.cap h.max
  clear h
  have hz := Zrver
  obtain ⟨n, HN⟩ : ∃ n, Hid (L.length = n) := ⟨_, rfl⟩
  rw [HN.out] at HL hn hl ⊢
  have hcp : n ≤ cp := by have := hcap a L.length cp rfl; rw [HN.out] at this; exact this
  clear hcap
  go_enter Tryz.func66, Tryz.ntmps66
  go_wp2_with fail
  refine (kgood_any HL.out).mono ?_
  rintro e w5 ⟨rfl, hb5⟩
  have L5 := hide hb5
  clear hb5
  obtain ⟨q, HQ⟩ : ∃ q, Hid (gd 0 L = q) := ⟨_, rfl⟩
  rw [HQ.out]
  cases q with
  | false =>
    have HF : Hid (trimP L snap = []) := (show _ = _ by unfold trimP; rw [HQ.out]; rfl)
    go_wp2_with fail
    go_ret
    exact ⟨_, rfl, by rw [HF.out]; exact ownV_nil _ _ _, L5.out⟩
  | true =>
    obtain ⟨f, HF⟩ : ∃ f, Hid (fstP L snap = f) := ⟨_, rfl⟩
    go_wp2_with fail
    go_loopg [5, 16] n (fun g y x wr => ∃ (i : Nat), g + i = n ∧ x = .int .i64 (i : Int) ∧ Hid (OwnV wr w.heap.size 140 y ((L.take i).drop f)) ∧ Hid (Below w.heap.size w wr))
    case atStart => exact ⟨0, by omega, rfl, (show OwnV _ _ _ _ _ by simp; exact ownV_nil _ _ _), L5⟩
    case round =>
      obtain ⟨i, hgi, rfl, HO, LR⟩ := hrel
      obtain ⟨gk0, Hgk⟩ : ∃ g, Hid (g = gk) := ⟨_, rfl⟩
      by_cases hlt : i < n
      · have q2 : (i : Int) < (n : Int) := by omega
        obtain ⟨b, off, rfl, hlb, hx⟩ := (HL.out.kept LR.out).nth (by omega)
        have hlt' : i < L.length := by rw [HN.out]; exact hlt
        have hr := hx i hlt'
        obtain ⟨p, HP⟩ : ∃ p, Hid (L[i] = p) := ⟨L[i], (show L[i] = L[i] from rfl)⟩
        rw [HP.out] at hr
        clear hx
        go_upto_region 7 with (first
          | (refine wpList_load_mid rfl 140 _ rfl b (off + i * 3) rfl (VC p) _ hr Tryz.underlying140 rfl Tryz.size140 ?_)
          | (refine wpList_store_new rfl 140 _ _ rfl wr _ (VC p).toArray _ rfl rfl rfl Tryz.size140 rfl (all_one (VC_one p)) ?_)
          | fail)
        obtain ⟨E, HE⟩ : ∃ E, Hid (wr.heap.size = E) := ⟨_, rfl⟩
        rw [HE.out]
        obtain ⟨w4, hw4⟩ : ∃ x, x = wr.alloc (.cells (VC p).toArray 140 (0, 0)) := ⟨_, rfl⟩
        rw [← hw4]
        have G4 : Hid (Below wr.heap.size wr w4) := (show Below _ _ _ by rw [hw4]; exact (Below.refl _ _).alloc (Nat.le_refl _) _)
        have L4 : Hid (Below w.heap.size w w4) := LR.out.trans (G4.out.mono LR.out.size)
        have B4 : Hid (Blk w4 E 140 (VC p)) := (show Blk _ _ _ _ by rw [hw4, ← HE.out]; exact Blk.new wr 140 (VC p))
        clear hw4 hr
        have O4 := hide (HO.out.kept G4.out)
        obtain ⟨a', hsl, hrd⟩ := slice_vers Tryz.underlying119 Tryz.size140 (some ⟨b, off, none⟩) n cp (i + 1) (by omega) hcp
        rw [show ((i + 1 : Nat) : Int) = (i : Int) + 1 by omega] at hsl
        have RD := hide (hrd w L HL.out)
        obtain ⟨k, HK⟩ : ∃ k, Hid (n - (i + 1) = k) := ⟨_, rfl⟩
        obtain ⟨c2, HC2⟩ : ∃ c, Hid (cp - (i + 1) = c) := ⟨_, rfl⟩
        obtain ⟨M, HM⟩ : ∃ M, Hid (L.drop (i + 1) = M) := ⟨_, rfl⟩
        rw [HK.out, HC2.out] at hsl
        rw [HK.out, HC2.out, HM.out] at RD
        have HMk : Hid (M.length = k) := RD.out.len
        have hk9 : k ≤ 9223372036854775807 := by have := HK.out; omega
        clear hrd
        rw [← Hgk.out] at hgi
        go_wp2_with fail
        go_loopg [8, 26] k (fun g y x wr => ∃ (j : Nat), g + j = k ∧ x = .int .i64 (j : Int) ∧ y = .bool ((M.take j).any fun v => decide (v.1 ≤ snap)) ∧ Hid (Below w.heap.size w wr) ∧ Hid (Below w4.heap.size w4 wr))
        case atStart => exact ⟨0, by omega, rfl, rfl, L4, Below.refl _ _⟩
        case round =>
          obtain ⟨j, hgj, rfl, rfl, LR2, LW⟩ := hrel
          by_cases hltj : j < k
          · have q3 : (j : Int) < (k : Int) := by omega
            obtain ⟨b, off, rfl, hlb, hx⟩ := (RD.out.kept LR2.out).nth (by omega)
            have hlt' : j < M.length := by rw [HMk.out]; exact hltj
            have hr := hx j hlt'
            obtain ⟨p2, HP⟩ : ∃ p, Hid (M[j] = p) := ⟨M[j], (show M[j] = M[j] from rfl)⟩
            rw [HP.out] at hr
            clear hx
            go_upto_region 11 with (first
              | (refine wpList_load_mid rfl 140 _ rfl b (off + j * 3) rfl (VC p2) _ hr Tryz.underlying140 rfl Tryz.size140 ?_)
              | (refine wpList_store_new rfl 140 _ _ rfl wr _ (VC p2).toArray _ rfl rfl rfl Tryz.size140 rfl (all_one (VC_one p2)) ?_)
              | fail)
            obtain ⟨E2, HE⟩ : ∃ E, Hid (wr.heap.size = E) := ⟨_, rfl⟩
            rw [HE.out]
            obtain ⟨w6, hw4⟩ : ∃ x, x = wr.alloc (.cells (VC p2).toArray 140 (0, 0)) := ⟨_, rfl⟩
            rw [← hw4]
            have G4 : Hid (Below wr.heap.size wr w6) := (show Below _ _ _ by rw [hw4]; exact (Below.refl _ _).alloc (Nat.le_refl _) _)
            have L4 : Hid (Below w.heap.size w w6) := LR2.out.trans (G4.out.mono LR2.out.size)
            have B4 : Hid (Blk w6 E2 140 (VC p2)) := (show Blk _ _ _ _ by rw [hw4, ← HE.out]; exact Blk.new wr 140 (VC p2))
            clear hw4 hr
            have c0 := B4.out.cell (j := 0) rfl
            have LW6 : Hid (Below w4.heap.size w4 w6) := LW.out.trans (G4.out.mono LW.out.size)
            have HS : Hid (((M.take (j + 1)).any fun v => decide (v.1 ≤ snap)) = (((M.take j).any fun v => decide (v.1 ≤ snap)) || decide (p2.1 ≤ snap))) := (show _ = _ by
              rw [take_snoc hlt', List.any_append, HP.out]
              simp)
            obtain ⟨r, HR⟩ : ∃ r, Hid (((M.take j).any fun v => decide (v.1 ≤ snap)) = r) := ⟨_, rfl⟩
            rw [HR.out] at HS ⊢
            cases r with
            | true =>
              go_wp2_with fail
              go_roundg (gk - 1)
              case measure => omega
              case rel => exact ⟨j + 1, by omega, by go_num, (by rw [HS.out]; rfl), L4, LW6⟩
            | false =>
              obtain ⟨x, s, d⟩ := p2
              simp only at c0 HS
              rw [Bool.false_or] at HS
              obtain ⟨r2, hr2⟩ : ∃ r, decide (x ≤ snap) = r := ⟨_, rfl⟩
              rw [hr2] at HS
              cases r2 with
              | true =>
                go_wp2_with fail
                go_roundg (gk - 1)
                case measure => omega
                case rel => exact ⟨j + 1, by omega, by go_num, (by rw [HS.out]), L4, LW6⟩
              | false =>
                go_wp2_with fail
                go_roundg (gk - 1)
                case measure => omega
                case rel => exact ⟨j + 1, by omega, by go_num, (by rw [HS.out]), L4, LW6⟩
          · obtain rfl : j = k := by omega
            have q3 : ¬ (j : Int) < (j : Int) := by omega
            have hr := (gd_rise HQ.out).1
            have hany : ((M.take j).any fun v => decide (v.1 ≤ snap)) = decide (i + 1 < (upto snap L).length) := by
              rw [List.take_of_length_le (by rw [HMk.out]; exact Nat.le_refl _), ← HM.out]
              exact later_at hr snap i
            rw [hany]
            have hf := fst_le L snap
            rw [HF.out] at hf
            have HSn : Hid ((L.take (i + 1)).drop f = (L.take i).drop f ++ if f ≤ i then [p] else []) := (show _ = _ by rw [take_drop_snoc f hlt', HP.out])
            have O6 := hide (O4.out.kept LW.out)
            have B6 := hide (B4.out.kept LW.out)
            have R6 := B6.out.range0
            have c0 := B6.out.cell (j := 0) rfl
            have c2' := B6.out.cell (j := 2) rfl
            by_cases hlate : i + 1 < (upto snap L).length
            · have q4 : decide (i + 1 < (upto snap L).length) = true := by simp [hlate]
              rw [q4]
              rw [if_neg (by omega), List.append_nil] at HSn
              clear hany hr R6 c0 c2'
              go_wp2_with fail
              go_roundg (gk0 - 1)
              case measure => have := Hgk.out; omega
              case rel => exact ⟨i + 1, by omega, by go_num, (show OwnV _ _ _ _ _ by rw [HSn.out]; exact O6.out), LR2⟩
            · have q4 : decide (i + 1 < (upto snap L).length) = false := by simp; omega
              rw [q4]
              have hfa := first_at HQ.out (n := snap) hlt' (by omega)
              rw [HF.out, HP.out] at hfa
              have HLn : Hid (((L.take i).drop f).length ≤ i) := (show _ ≤ _ by rw [List.length_drop, List.length_take]; omega)
              have HLn2 : Hid (((L.take i).drop f).length + [p].length ≤ 4398046511104) := (show _ ≤ _ by have := HLn.out; simp only [List.length_cons, List.length_nil]; omega)
              have a7 : Below wr.heap.size wr (wr.alloc (.cells (VC p).toArray 140 (0, 0))) := (Below.refl _ _).alloc (Nat.le_refl _) _
              have O7 := hide (O6.out.kept a7)
              have L7 : Hid (Below w.heap.size w (wr.alloc (.cells (VC p).toArray 140 (0, 0)))) := LR2.out.trans (a7.mono LR2.out.size)
              obtain ⟨ya, yc, hy⟩ := O6.out.rd.slice
              obtain ⟨K, HKK⟩ : ∃ K, Hid ((L.take i).drop f = K) := ⟨_, rfl⟩
              rw [HKK.out] at HSn O6 O7 HLn2 hfa hy
              subst hy
              clear a7 hany hr O4 B4
              cases K with
              | cons m K' =>
                have hfi : f ≤ i := by
                  simp at hfa
                  exact hfa
                rw [if_pos hfi] at HSn
                obtain ⟨kl, Hkl⟩ : ∃ kl, Hid ((m :: K').length = kl) := ⟨_, rfl⟩
                have hk0 : ((kl : Int) == 0) = false := by have := Hkl.out; simp at this; simp; omega
                rw [Hkl.out] at O6 O7 ⊢
                clear hfa hfi
                go_wp2_with (first
                  | (refine wpList_load_mid rfl 140 _ rfl E 0 rfl (VC p) _ R6 Tryz.underlying140 rfl Tryz.size140 ?_)
                  | (refine wpList_build1 rfl _ rfl p rfl ?_)
                  | (at_builtin; refine wpList_append_vers _ rfl _ _ 119 119 rfl w.heap.size 140 i0 Tryz.underlying119 hi0 hz0 hz1 hz2 _ _ rfl O7.out _ [p] rfl (src_one Tryz.prog wr p 140 119 140 Tryz.underlying119) HLn2.out L7.out.size ?_; intro v8 w8 o8 b8; have O8 := hide o8; have B8 := hide b8; clear o8 b8)
                  | fail)
                go_roundg (gk0 - 1)
                case measure => have := Hgk.out; omega
                case rel => exact ⟨i + 1, by omega, by go_num, (show OwnV _ _ _ _ _ by rw [HSn.out]; exact O8.out), L7.out.trans B8.out⟩
              | nil =>
                obtain ⟨x, s, d⟩ := p
                simp only [List.isEmpty_nil, Bool.true_and] at c0 c2' hfa
                cases d with
                | false =>
                  have hfi : f ≤ i := by simp at hfa; exact hfa
                  rw [if_pos hfi] at HSn
                  clear hfa hfi
                  go_wp2_with (first
                    | (refine wpList_load_mid rfl 140 _ rfl E 0 rfl (VC (x, s, false)) _ R6 Tryz.underlying140 rfl Tryz.size140 ?_)
                    | (refine wpList_build1 rfl _ rfl (x, s, false) rfl ?_)
                    | (at_builtin; refine wpList_append_vers _ rfl _ _ 119 119 rfl w.heap.size 140 i0 Tryz.underlying119 hi0 hz0 hz1 hz2 _ _ rfl O7.out _ [(x, s, false)] rfl (src_one Tryz.prog wr (x, s, false) 140 119 140 Tryz.underlying119) HLn2.out L7.out.size ?_; intro v8 w8 o8 b8; have O8 := hide o8; have B8 := hide b8; clear o8 b8)
                    | fail)
                  go_roundg (gk0 - 1)
                  case measure => have := Hgk.out; omega
                  case rel => exact ⟨i + 1, by omega, by go_num, (show OwnV _ _ _ _ _ by rw [HSn.out]; exact O8.out), L7.out.trans B8.out⟩
                | true =>
                  obtain ⟨r2, hr2⟩ : ∃ r, decide (x ≤ snap) = r := ⟨_, rfl⟩
                  rw [hr2] at hfa
                  cases r2 with
                  | false =>
                    have hfi : f ≤ i := by simp at hfa; exact hfa
                    rw [if_pos hfi] at HSn
                    clear hfa hfi
                    go_wp2_with (first
                      | (refine wpList_load_mid rfl 140 _ rfl E 0 rfl (VC (x, s, true)) _ R6 Tryz.underlying140 rfl Tryz.size140 ?_)
                      | (refine wpList_build1 rfl _ rfl (x, s, true) rfl ?_)
                      | (at_builtin; refine wpList_append_vers _ rfl _ _ 119 119 rfl w.heap.size 140 i0 Tryz.underlying119 hi0 hz0 hz1 hz2 _ _ rfl O7.out _ [(x, s, true)] rfl (src_one Tryz.prog wr (x, s, true) 140 119 140 Tryz.underlying119) HLn2.out L7.out.size ?_; intro v8 w8 o8 b8; have O8 := hide o8; have B8 := hide b8; clear o8 b8)
                      | fail)
                    go_roundg (gk0 - 1)
                    case measure => have := Hgk.out; omega
                    case rel => exact ⟨i + 1, by omega, by go_num, (show OwnV _ _ _ _ _ by rw [HSn.out]; exact O8.out), L7.out.trans B8.out⟩
                  | true =>
                    have hfi : ¬ f ≤ i := by simp at hfa; omega
                    rw [if_neg hfi, List.append_nil] at HSn
                    clear hfa hfi R6
                    go_wp2_with fail
                    go_roundg (gk0 - 1)
                    case measure => have := Hgk.out; omega
                    case rel => exact ⟨i + 1, by omega, by go_num, (show OwnV _ _ _ _ _ by rw [HSn.out]; exact O6.out), LR2⟩
      · obtain rfl : i = n := by omega
        have q2 : ¬ (i : Int) < (i : Int) := by omega
        have HT : Hid (trimP L snap = (L.take i).drop f) := (show _ = _ by
          rw [trimP_drop HQ.out, HF.out, List.take_of_length_le (by rw [HN.out]; exact Nat.le_refl _)])
        go_wp2_with fail
        go_ret
        exact ⟨_, rfl, by rw [HT.out]; exact HO.out, LR.out⟩
end Go.Proofs.YtcicekggeampcaaGreat

/-
  The law's lives: what the call does.
-/
namespace Go.Proofs.YtcicekggeampcaaGreat
open Go.RowKit

/-- The document's example. -/
def exL : List Ver := [(1, ⟨#[97]⟩, false), (3, ⟨#[]⟩, true), (5, ⟨#[98]⟩, false)]
end Go.Proofs.YtcicekggeampcaaGreat

/-
  What follows, plain: trimmed versions tell the same; what is put is there; cut versions tell what they told.
-/
namespace Go.Proofs.YtcicekggeampcaaGreat
theorem gd_mono : ∀ {L : List Ver} {a b : Int}, b ≤ a → gd a L = true → gd b L = true
  | [], _, _, _, _ => rfl
  | v :: L, a, b, hab, h => by
    rw [gd, Bool.and_eq_true] at h ⊢
    refine ⟨?_, h.2⟩
    have h1 := h.1
    unfold fol at h1 ⊢
    simp only [Bool.and_eq_true, decide_eq_true_eq] at h1 ⊢
    exact ⟨by omega, h1.2⟩
theorem gd_drop : ∀ {L : List Ver} {a : Int} (k : Nat), gd a L = true → gd a (L.drop k) = true
  | [], _, _, _ => by simp [gd]
  | v :: L, a, 0, h => h
  | v :: L, a, k + 1, h => by
    have hr := (gd_rise h).2 v (by simp)
    rw [gd, Bool.and_eq_true] at h
    rw [List.drop_succ_cons]
    exact gd_mono (Int.le_of_lt hr) (gd_drop k h.2)
theorem mem_live {M : List Ver} {v : Ver} (h : v ∈ liveL M) : v ∈ M := by
  unfold liveL at h
  cases e : M.getLast? with
  | none => rw [e] at h; simp at h
  | some u =>
    rw [e] at h
    simp only at h
    split at h
    · simp at h
    · rw [List.mem_singleton] at h
      subst h
      exact List.mem_of_getLast? e
theorem trim_good {L : List Ver} (h : gd 0 L = true) (n : Int) : gd 0 (trimP L n) = true := by rw [trimP_drop h]; exact gd_drop _ h
end Go.Proofs.YtcicekggeampcaaGreat
