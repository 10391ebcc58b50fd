/-
  Texts that ride together: TrA TrM TrU TrS.
-/
import Derived.Test.YtooffljimdklfaaDoorG11o
/-
  (*node).tell and the function of (*Trie).All: what is handed to whatever loop goes over it.
-/
namespace Go.Proofs.YtooffljimdklfaaDoor
open Go.RowKit Go.Shelf
attribute [local go_sem] Oper.semAt_some
/-- A call in a walk at the wide fence. -/
theorem wide_call {P : Program} {n m f : Nat} {args : Array Value} {w : World} {R R' : Ending → World → Prop} (h : Calls P f args w R) (hm : ∀ e w', R e w' → R' e w') :
    Fence.wide.fn f ∧ (Fence.wide.depth.isSome = true → 1 ≤ n) ∧ CallsIn Fence.wide m P f args w R' :=
  ⟨trivial, fun h => by simp [Fence.wide] at h, (callsIn_wide.2 h).mono hm⟩
theorem wpIn_yieldW {P : Program} {n k l : Nat} {o : Oper} {a : Act} {w : World} {K : Act → World → Prop} {Q : Exit → Act → World → Prop} {R : Ending → World → Prop} (x y z : Operand) (ts : Array TypeId) (ho : o.op = .call { callee := .value x, args := #[y, z], argTypes := ts })
    {v1 v2 : Value} (hx : a.eval x = .func (.yield l) #[] #[]) (h1 : a.eval y = v1) (h2 : a.eval z = v2) {fn : FuncId} {tmps : Array Value} {assign body : Code} (hy : (Instr.yield l #[v1, v2]).run P w = .ok (.round l fn tmps assign body) w)
    (hR : RoundIn Fence.wide k P l fn tmps assign body w R) (hK : ∀ e w', R e w' → ∃ v, e = .returned v ∧ K (a.put o.dst v) w') : o.wpIn Fence.wide n P a w K Q := by
  refine ⟨fun f hf => trivial, ?_⟩
  rw [Oper.semAt_eq _ _ _ (by rw [ho]; intro c h; cases h)]
  have hrun : (execOp a.eval o).run P w = .ok (.round l fn tmps assign body) w := by
    simp only [execOp, ho, hx, h1, h2, resolve, List.map_toArray, List.map_cons, List.map_nil]
    go_simp
  rw [hrun]
  refine ⟨fun h => by simp [Fence.wide] at h, (round_any hR).mono ?_⟩
  intro e w' hr
  obtain ⟨v, rfl, hk⟩ := hK e w' hr
  exact hk
/-- What a round is handed. -/
def itV (x : It) : Array Value := #[HV x.1, HV x.2]
theorem itV_get {P : Program} {l : Nat} {x : It} {X : World} {R : Ending → World → Prop} (h : YieldAt Fence.wide 0 P l (itV x) X R) : YieldAt Fence.wide 0 P l #[HV x.1, HV x.2] X R := h
theorem Nd.chg {B0 N : Nat} {G : Nat → Prop} {X Y : World} {b : Nat} {M : List It} (h : Nd B0 X b M) (hc : Chg G X Y) (hG : ∀ k, G k → N ≤ k) (hb : b < N) : Nd B0 Y b M :=
  h.low (fun k hk => hc.block k (Nat.lt_of_le_of_lt hk h.lt) (fun g => by have := hG k g; omega))
set_option maxHeartbeats 4000000 in
set_option maxRecDepth 100000 in
theorem tell_any {B0 N l : Nat} {J Jx : List It → World → Prop} {G : Nat → Prop} {L : List It} (hG : ∀ k, G k → N ≤ k) (hJ : ∀ pre X Y, J pre X → Below X.heap.size X Y → J pre Y)
    (hY : ∀ pre x X, J pre X → (pre ++ [x]) <+: L → YieldAt Fence.wide 0 Tryd.prog l #[HV x.1, HV x.2] X fun e Y => Chg G X Y ∧ ((e = .returned (.bool true) ∧ J (pre ++ [x]) Y) ∨ (e = .returned (.bool false) ∧ Jx (pre ++ [x]) Y))) :
    ∀ (b : Nat) (M pre : List It) (X : World), b < N → Nd B0 X b M → J pre X → (pre ++ M) <+: L → Calls Tryd.prog 64 #[PT b, .func (.yield l) #[] #[]] X fun e Y => Chg G X Y ∧ ((e = .returned (.bool true) ∧ J (pre ++ M) Y) ∨ (e = .returned (.bool false) ∧ ∃ xs, Jx xs Y)) := by
  have HG := hide hG
  have HJ := hide hJ
  have HY := hide hY
  clear hG hJ hY
  obtain ⟨N0, -⟩ : ∃ n : Nat, True := ⟨9, trivial⟩
  intro b
  induction b using Nat.strongRecOn with
  | _ b ih =>
  intro M pre X hbN hn hj hpre
  have IH := hide ih
  obtain ⟨-, i, ky, vl, l1, r1, d, hh, hB, -, h1⟩ := Nd.iff.1 hn
  have DX := hide hB
  have JX := hide hj
  have CI := hide (nisItem_any hB)
  have NX := hide hn
  have PX := hide hpre
  clear ih hB hj hn hpre
  refine (callsIn_wide (n := N0)).1 ?_
  refine callsIn_of_wp Tryd.func64 rfl trivial ?_ rfl
  simp only [Tryd.ntmps64, List.size_toArray, List.length_cons, List.length_nil, Nat.reduceAdd, Nat.reduceSub, Array.replicate_succ, Array.replicate_zero, List.push_toArray, List.append_toArray, List.nil_append, List.cons_append]
  gi_wp2_with fail
  refine wide_call CI.out ?_
  rintro e w' ⟨rfl, hw'⟩
  subst w'
  clear CI
  rcases h1 with ⟨rfl, rfl, rfl, rfl⟩ | ⟨A, B, bl, br, hF, hk, hbl, hbr, rfl, rfl, hA, hB⟩
  · have PFX := hide PX.out
    rw [show decide (((256 : Nat) : Int) = 256) = true by decide]
    gi_wp2_with fail
    refine wpIn_region_tails op_inW Tryd.mixed (by decide +kernel) (KS (fun i_ => match i_ with | 0 => .val (.func (.yield l) #[] #[]) | 1 | 2 | 5 | 6 => .val (.pointer (some ⟨b, 0, none⟩)) | 3 => .val (.pointer (some ⟨b, 1, none⟩)) | 4 => .val (HV ky) | 7 => .val (.pointer (some ⟨b, 33, none⟩)) | 8 => .val (HV vl) | _ => .free)) 33 rfl (by decide +kernel) 9 (by decide) (by decide +kernel) (KS_mono _) ?_ ?_
    · refine AllFrom.cons ⟨rfl, fun a' w' hg hk hd => ?_⟩ (AllFrom.cons ⟨rfl, fun a' w' hg hk hd => ?_⟩ (AllFrom.cons ⟨rfl, fun a' w' hg hk hd => ?_⟩ (AllFrom.cons ⟨rfl, fun a' w' hg hk hd => ?_⟩ (AllFrom.cons ⟨rfl, fun a' w' hg hk hd => ?_⟩ (AllFrom.cons ⟨rfl, fun a' w' hg hk hd => ?_⟩ (AllFrom.cons ⟨rfl, fun a' w' hg hk hd => ?_⟩ (AllFrom.cons ⟨rfl, fun a' w' hg hk hd => ?_⟩ (AllFrom.cons ⟨rfl, fun a' w' hg hk hd => ?_⟩ AllFrom.nil))))))))
      · skip
        intro Q
        have e1 : a'.eval (.tmp 1) = .func (.yield l) #[] #[] := hk.at 1 (by decide +kernel)
        exact wp_value _ (by simp only [execOp, e1]; rfl) (KS_mkv rfl rfl)
      · skip
        intro Q
        have e0 : a'.eval (.tmp 0) = .pointer (some ⟨b, 0, none⟩) := hk.at 0 (by decide +kernel)
        exact wp_value _ (by simp only [execOp, e0]; rfl) (KS_mkv rfl rfl)
      · skip
        intro Q
        have e8 : a'.eval (.tmp 8) = .pointer (some ⟨b, 0, none⟩) := KS_val (hd.val 1 8 (by decide +kernel)) rfl
        clear hd hk
        exact wp_value (.pointer (some ⟨b, 0, none⟩)) (by simp only [execOp, e8]; go_simp) (KS_mkv rfl rfl)
      · skip
        intro Q
        have e9 : a'.eval (.tmp 9) = .pointer (some ⟨b, 0, none⟩) := KS_val (hd.val 2 9 (by decide +kernel)) rfl
        clear hd hk
        exact wp_value (.pointer (some ⟨b, 1, none⟩)) (by simp only [execOp, e9]; go_simp) (KS_mkv rfl rfl)
      · skip
        intro Q
        have e10 : a'.eval (.tmp 10) = .pointer (some ⟨b, 1, none⟩) := KS_val (hd.val 3 10 (by decide +kernel)) rfl
        exact wp_load_row 24 _ rfl _ _ e10 (By (ky).1) _ (NC.key (DX.out.kept hg)) Tryd.underlying24 rfl (Tryd.sizeH _) (KS_mkv rfl rfl)
      · skip
        intro Q
        have e0 : a'.eval (.tmp 0) = .pointer (some ⟨b, 0, none⟩) := hk.at 0 (by decide +kernel)
        exact wp_value _ (by simp only [execOp, e0]; rfl) (KS_mkv rfl rfl)
      · skip
        intro Q
        have e12 : a'.eval (.tmp 12) = .pointer (some ⟨b, 0, none⟩) := KS_val (hd.val 5 12 (by decide +kernel)) rfl
        clear hd hk
        exact wp_value (.pointer (some ⟨b, 0, none⟩)) (by simp only [execOp, e12]; go_simp) (KS_mkv rfl rfl)
      · skip
        intro Q
        have e13 : a'.eval (.tmp 13) = .pointer (some ⟨b, 0, none⟩) := KS_val (hd.val 6 13 (by decide +kernel)) rfl
        clear hd hk
        exact wp_value (.pointer (some ⟨b, 33, none⟩)) (by simp only [execOp, e13]; go_simp) (KS_mkv rfl rfl)
      · skip
        intro Q
        have e14 : a'.eval (.tmp 14) = .pointer (some ⟨b, 33, none⟩) := KS_val (hd.val 7 14 (by decide +kernel)) rfl
        exact wp_load_row 24 _ rfl _ _ e14 (By (vl).1) _ (NC.value (DX.out.kept hg)) Tryd.underlying24 rfl (Tryd.sizeH _) (KS_mkv rfl rfl)
    · intro a' w3 hsz hdf hk hall hg
      have e7 : a'.eval (.tmp 7) = .func (.yield l) #[] #[] := KS_val (hall 0 _ 7 (by decide) rfl rfl) rfl
      have e8 : a'.eval (.tmp 8) = .pointer (some ⟨b, 0, none⟩) := KS_val (hall 1 _ 8 (by decide) rfl rfl) rfl
      have e9 : a'.eval (.tmp 9) = .pointer (some ⟨b, 0, none⟩) := KS_val (hall 2 _ 9 (by decide) rfl rfl) rfl
      have e10 : a'.eval (.tmp 10) = .pointer (some ⟨b, 1, none⟩) := KS_val (hall 3 _ 10 (by decide) rfl rfl) rfl
      have e11 : a'.eval (.tmp 11) = HV ky := KS_val (hall 4 _ 11 (by decide) rfl rfl) rfl
      have e12 : a'.eval (.tmp 12) = .pointer (some ⟨b, 0, none⟩) := KS_val (hall 5 _ 12 (by decide) rfl rfl) rfl
      have e13 : a'.eval (.tmp 13) = .pointer (some ⟨b, 0, none⟩) := KS_val (hall 6 _ 13 (by decide) rfl rfl) rfl
      have e14 : a'.eval (.tmp 14) = .pointer (some ⟨b, 33, none⟩) := KS_val (hall 7 _ 14 (by decide) rfl rfl) rfl
      have e15 : a'.eval (.tmp 15) = HV vl := KS_val (hall 8 _ 15 (by decide) rfl rfl) rfl
      obtain ⟨z16, e16⟩ : ∃ v, a'.eval (.tmp 16) = v := ⟨_, rfl⟩
      obtain ⟨z4, e4⟩ : ∃ v, a'.eval (.tmp 4) = v := ⟨_, rfl⟩
      obtain ⟨fn, tmps, assign, body, hy, hR⟩ := HY.out pre (ky, vl) w3 (HJ.out _ _ _ JX.out hg) PFX.out
      refine ⟨rfl, ?_⟩
      refine wpIn_yieldW (.tmp 7) (.tmp 11) (.tmp 15) _ rfl e7 e11 e15 hy hR ?_
      intro e w4 hr
      obtain ⟨bv, rfl, hc4, hres⟩ : ∃ bv : Bool, e = .returned (.bool bv) ∧ Chg G w3 w4 ∧ ((bv = true ∧ J (pre ++ [(ky, vl)]) w4) ∨ (bv = false ∧ ∃ xs, Jx xs w4)) := by
        obtain ⟨hc, ⟨rfl, hj⟩ | ⟨rfl, hj⟩⟩ := hr
        · exact ⟨true, rfl, hc, .inl ⟨rfl, hj⟩⟩
        · exact ⟨false, rfl, hc, .inr ⟨rfl, _, hj⟩⟩
      refine ⟨.bool bv, rfl, .bool bv, rfl, rfl, ?_⟩
      refine op_inW (by intro c h; cases h) (Oper.wp_mono ?_ (wp_same (C := fun x => x = w4) (.bool bv) (by simp only [execOp]; rw [show (a'.put (some 16) (Value.bool bv)).eval (Operand.tmp 16) = .bool bv from eval_put_same (by rw [hsz]; simp)]; rfl) rfl))
      rintro a2 w5 ⟨rfl, hw5⟩
      rw [hw5]
      clear hw5
      clear w5
      refine ⟨_, rfl, ?_⟩
      unfold wpSeqIn
      have HRS := hide hres
      have HC4 : Hid (Chg G X w4) := (show _ from (Chg.of_below hg).trans hc4)
      clear hres hc4 hr hy hR hall
      have ha := act_puts 33 rfl hsz hdf hk [7, 8, 9, 10, 11, 12, 13, 14, 15, 16, 4] (by decide +kernel)
      simp only [puts, List.foldl_cons, List.foldl_nil, e7, e8, e9, e10, e11, e12, e13, e14, e15, e16, e4] at ha
      simp only [Act.put, List.setIfInBounds_toArray, List.set_cons_succ, List.set_cons_zero] at ha
      have hput : (a'.put (some 16) (.bool bv)).put (some 4) (.bool bv) = { tmps := (a'.tmps.setIfInBounds 16 (.bool bv)).setIfInBounds 4 (.bool bv), defers := a'.defers } := rfl
      simp only [hput]
      subst ha
      clear hput hk hsz hdf e7 e8 e9 e10 e11 e12 e13 e14 e15 e16 e4
      gi_wp2_with fail
      refine bodyPost_ret (results_tmp rfl _ _ _) rfl ?_
      rcases HRS.out with ⟨rfl, hj⟩ | ⟨rfl, hj⟩
      · exact ⟨HC4.out, .inl ⟨rfl, hj⟩⟩
      · exact ⟨HC4.out, .inr ⟨rfl, hj⟩⟩
  · have hi := hF.lt
    rw [show decide ((i : Int) = 256) = false by simp; omega]
    have HM : Hid (M = A ++ B) := hF.eq
    have NA := hide hA
    have NB := hide hB
    have c0 := NC.left DX.out
    have PA : Hid ((pre ++ A) <+: L) := (show _ from (by
      have := PX.out
      rw [HM.out, ← List.append_assoc] at this
      exact (List.prefix_append _ _).trans this))
    clear hA hB hF hk
    gi_wp2_with fail
    refine wide_call (IH.out bl hbl A pre X (by omega) NA.out JX.out PA.out) ?_
    rintro e w3 ⟨hc3, ⟨rfl, hj3⟩ | ⟨rfl, hx3⟩⟩
    · have D3 := hide (DX.out.chg hc3 (fun g => by have := HG.out _ g; omega))
      have B3 := hide (NB.out.chg hc3 HG.out (by omega))
      have J3 := hide hj3
      have C3 := hide hc3
      have c1 := NC.right D3.out
      have PB : Hid ((pre ++ A) ++ B <+: L) := (show _ from (by
        have := PX.out
        rwa [HM.out, ← List.append_assoc] at this))
      clear hc3 hj3 c0
      gi_wp2_with fail
      refine wide_call (IH.out br hbr B (pre ++ A) w3 (by omega) B3.out J3.out PB.out) ?_
      rintro e w4 ⟨hc4, ⟨rfl, hj4⟩ | ⟨rfl, hx4⟩⟩
      · have C4 := hide (C3.out.trans hc4)
        have J4 : Hid (J (pre ++ M) w4) := (show _ from (by rw [HM.out, ← List.append_assoc]; exact hj4))
        clear hc4 hj4 c1
        gi_wp2_with fail
        refine bodyPost_ret (results_tmp rfl _ _ _) rfl ?_
        exact ⟨C4.out, .inl ⟨rfl, J4.out⟩⟩
      · have C4 := hide (C3.out.trans hc4)
        have X4 := hide hx4
        clear hc4 hx4 c1
        gi_wp2_with fail
        refine bodyPost_ret (results_tmp rfl _ _ _) rfl ?_
        exact ⟨C4.out, .inr ⟨rfl, X4.out⟩⟩
    · have C3 := hide hc3
      have X3 := hide hx3
      clear hc3 hx3 c0
      gi_wp2_with fail
      refine ⟨trivial, ?_⟩
      gi_wp2_with fail
      refine bodyPost_ret (results_tmp rfl _ _ _) rfl ?_
      exact ⟨C3.out, .inr ⟨rfl, X3.out⟩⟩
#print axioms tell_any
set_option maxHeartbeats 2000000 in
set_option maxRecDepth 100000 in
theorem tAll_any {w : World} {p : Nat} {q : Option Addr} {y : Value} (hB : Blk w p 60 [.bool true, .pointer q, y]) : Calls Tryd.prog 49 #[PT p] w fun e w' => ∃ E, e = .returned (.func (.func 63) #[] #[PT E]) ∧ w.heap.size ≤ E ∧ Blk w' E 58 [.pointer q] ∧ Below w.heap.size w w' := by
  obtain ⟨N, HN⟩ : ∃ N, Hid (w.heap.size = N) := ⟨_, rfl⟩
  have HBK := hide hB
  clear hB
  have hmf : ∀ (fn : Fn) (first cap : Array Value) (w : World), (Instr.makeFunc fn first cap).run Tryd.prog w = .ok (.func fn first cap) w := fun _ _ _ _ => rfl
  rw [HN.out]
  go_enter Tryd.func49, Tryd.ntmps49
  go_upto_region 2 with fail
  obtain ⟨w1, hw1⟩ : ∃ z, z = w.alloc (.cells #[.pointer none] 58 (0, 0)) := ⟨_, rfl⟩
  change Code.wp _ _ _ _ (w.alloc (.cells #[.pointer none] 58 (0, 0)))
  rw [← hw1, HN.out]
  have B1 : Hid (Blk w1 N 58 [.pointer none]) := (show Blk _ _ _ _ by rw [hw1, ← HN.out]; exact Blk.new w 58 [.pointer none])
  have L1 : Hid (Below N w w1) := (show Below _ _ _ by rw [hw1, ← HN.out]; exact (Below.refl _ _).alloc (Nat.le_refl _) _)
  clear hw1
  have T1 := hide (HBK.out.kept (L1.out.mono (Nat.le_of_eq HN.out)))
  have CM := hide (tisMade_any T1.out)
  have c1 := T1.out.cell (j := 1) rfl
  have c0 := B1.out.cell (j := 0) rfl
  have f0 := B1.out.frozen 0
  go_wp2_with (first
    | (go_at_call 41; refine CM.out.mono ?_; rintro e w' ⟨rfl, hw'⟩; subst w')
    | fail)
  go_ret
  refine ⟨N, rfl, Nat.le_refl _, by have := B1.out.set 0 (.pointer q); simpa using this, L1.out.trans ?_⟩
  exact (But.setCell N w1 0 _).below (Nat.le_refl _) (Nat.le_of_lt B1.out.lt)
theorem prefix_nil {α : Type} (L : List α) : [] ++ L <+: L := by simp
set_option maxHeartbeats 2000000 in
set_option maxRecDepth 100000 in
theorem all1_hands {B0 N E : Nat} {q : Option Addr} {L : List It} (w : World) (hbox : Blk w E 58 [.pointer q]) (hTop : TopOf B0 w (.pointer q) L) (hq : ∀ b, q = some ⟨b, 0, none⟩ → b < N) {G : Nat → Prop} (hG : ∀ k, G k → N ≤ k) (hNw : N ≤ w.heap.size) :
    Hands3 Tryd.prog 63 #[PT E] itV (fun pre x => (pre ++ [x]) <+: L) (fun xs => xs = L) G w := by
  intro l J Jx W hW hl1 hl2 h0 hJ hJx hJp hJxp hY
  have BX := hide (hbox.kept hW)
  have TO := hide (hTop.kept hW)
  have HJ0 := hide (h0 W (Below.refl _ _))
  have hWs := hW.size
  have HTell := hide (fun (b : Nat) (hb : b < N) (hn : Nd B0 W b L) => tell_any (B0 := B0) (N := N) (l := l) (J := J W.heap.size) (Jx := Jx W.heap.size) (G := fun k => G k ∨ k = l ∨ W.heap.size ≤ k) (L := L)
    (fun k h => by rcases h with h | h | h; exact hG k h; omega; omega) (fun pre X Y => hJ _ pre X Y)
    (fun pre x X hj hp => (hY _ pre x X (Nat.le_refl _) hj hp).mono (fun e Y h => ⟨h.1, h.2.2⟩)) b L [] W hb hn HJ0.out (prefix_nil L))
  have HQ := hide hq
  clear hbox hTop h0 hJ hJx hJp hJxp hY hW hWs hG hq
  have c0 := BX.out.cell (j := 0) rfl
  show Calls Tryd.prog 63 #[.func (.yield l) #[] #[], PT E] W _
  rcases TO.out with ⟨rfl, hq0⟩ | ⟨b, hqb, hn⟩
  · cases hq0
    go_enter Tryd.func63, Tryd.ntmps63
    go_wp2
    go_end0
    exact ⟨⟨_, rfl⟩, .inl ⟨_, [], rfl, HJ0.out⟩⟩
  · cases hqb
    have C := hide (HTell.out b (HQ.out b rfl) hn)
    clear hn HTell
    go_enter Tryd.func63, Tryd.ntmps63
    go_wp2_with fail
    refine C.out.mono ?_
    rintro e Y ⟨-, ⟨rfl, hj⟩ | ⟨rfl, xs, hx⟩⟩
    · have H9 := hide hj
      clear hj
      go_wp2
      go_end0
      exact ⟨⟨_, rfl⟩, .inl ⟨_, L, rfl, H9.out⟩⟩
    · have H9 := hide hx
      clear hx
      go_wp2
      go_end0
      exact ⟨⟨_, rfl⟩, .inr ⟨_, xs, H9.out⟩⟩
#print axioms all1_hands
end Go.Proofs.YtooffljimdklfaaDoor

/-
  Items in rows, as the reference and the laws make them.
-/
namespace Go.Proofs.YtooffljimdklfaaDoor
open Go.RowKit
theorem run_append_at {P : Program} (w : World) (base : Nat) (t tx ty e : TypeId) (i : TypeInfo) (z : Value) (size bytes : Nat) (ht : P.underlying t = some (.slice e)) (hi : P.info? e = some i) (hz : i.zero = some z)
    (hsize : i.size = size) (hby : i.bytes = bytes) (hzs : z.cells.size = size)
    (v : Value) (n : Nat) (xs : List Value) (hown : w.ownsRow base e size v n xs)
    (x : Value) (m : Nat) (news : List Value) (hs : Src P size tx x m news w)
    (h63 : n + m ≤ maxLen) (hbytes : (n + m) * bytes ≤ 140737488355328) (hbase : base ≤ w.heap.size) :
    ∃ v' w', (Builtin.append_ #[t, tx] ty #[v, x]).run P w = .ok v' w' ∧ w'.ownsRow base e size v' (n + m) (xs ++ news) ∧ w.grownBy w' v.ownBlock ∧ ∀ b, v'.ownBlock = some b → v.ownBlock = some b ∨ b = w.heap.size := by
  subst hsize
  subst hby
  have hl := hs.newsLen
  have hsmall : n + m ≤ 9223372036854775807 := by simp only [maxLen] at h63; omega
  have hlen : (xs ++ news).length = (n + m) * i.size := by rw [List.length_append, hown.1, hl, Nat.add_mul]
  have grown : ∀ (old : Nat), old < n + m → ∀ (row : Option Nat),
      (w.drew.alloc (.cells ((xs ++ news).toArray ++ Builtin.zeroCells z.cells (grownCap w (n + m) old e - (n + m))) e)).ownsRow base e i.size
        (.slice (some ⟨w.heap.size, 0, none⟩) (n + m) (grownCap w (n + m) old e)) (n + m) (xs ++ news) ∧
      w.grownBy (w.drew.alloc (.cells ((xs ++ news).toArray ++ Builtin.zeroCells z.cells (grownCap w (n + m) old e - (n + m))) e)) row := by
    intro old ho row
    have hge := grownCap_ge w (n + m) old e
    have hcm : grownCap w (n + m) old e ≤ maxLen := grownCap_le_maxLen w (n + m) old e h63
    refine ⟨⟨hlen, .inr ⟨w.heap.size, _, _, rfl, hbase, heap_alloc_new w.drew _, hge, hcm, ?_, ?_⟩⟩, ⟨rfl, rfl, rfl, by simp, fun k hk _ => Below.heap_alloc w.drew _ k hk⟩⟩
    · simp only [Array.size_append, List.size_toArray, size_zeroCells, hzs, hlen, ← Nat.add_mul]
      congr 1
      omega
    · simp only [Array.toList_append]
      rw [← hlen]
      exact List.take_left
  rcases hown.2 with ⟨rfl, rfl⟩ | ⟨g, cap, cur, rfl, hbg, hg, hnc, hcm, hcs, htake⟩
  · have hx : xs = [] := List.eq_nil_of_length_eq_zero (by simpa using hown.1)
    subst hx
    by_cases hm : m = 0
    · subst hm
      have hn : news = [] := List.eq_nil_of_length_eq_zero (by simpa using hl)
      subst hn
      refine ⟨.slice none 0 0, w, ?_, World.ownsRow_nil w base e i.size, ⟨rfl, rfl, rfl, Nat.le_refl _, fun _ _ _ => rfl⟩, fun _ h => .inl h⟩
      rcases hs.kind with ⟨e', hk⟩ | hk <;> simp [Builtin.append_, run_underlying ht, run_underlying hk, sizeOf, typeInfo, hi, hs.len, hs.cells]
    · have hr := run_append_grow_src (P := P) w t tx ty e i z ht hi hz none 0 0 [] (run_firstCells_none w.drew i.size 0 0 0) x m news hs (by omega) (by omega) (growslice_fits (by omega) hbytes)
      have hgr := grown 0 (by omega) (Value.ownBlock (.slice none 0 0))
      exact ⟨_, _, hr, hgr.1, hgr.2, fun b hb => .inr (by simpa [Value.ownBlock] using hb.symm)⟩
  · by_cases hroom : n + m ≤ cap
    · have hfit : n * i.size + news.length ≤ cur.size := by rw [hl, hcs, ← Nat.add_mul]; exact Nat.mul_le_mul_right _ hroom
      have hst := run_storeCells_at P g (n * i.size) e news 0 cur w hg (by simpa using hfit) hs.one
      simp only [Nat.add_zero] at hst
      have hr : (Builtin.append_ #[t, tx] ty #[.slice (some ⟨g, 0, none⟩) n cap, x]).run P w =
          .ok (.slice (some ⟨g, 0, none⟩) (n + m) cap) (w.setRow g (cur.toList.take (n * i.size) ++ news ++ cur.toList.drop (n * i.size + news.length)).toArray) := by
        rcases hs.kind with ⟨e', hk⟩ | hk <;> simp [Builtin.append_, run_underlying ht, run_underlying hk, sizeOf, typeInfo, hi, hs.len, hroom, hs.cells, Addr.add_lit, hst]
      refine ⟨_, _, hr, ⟨hlen, .inr ⟨g, cap, _, rfl, hbg, setRow_heap w g cur _ e _ hg, hroom, hcm, ?_, ?_⟩⟩, ⟨rfl, rfl, rfl, by simp, fun k _ hk => setRow_other w g k _ (fun e => hk (by simp [Value.ownBlock, e]))⟩, fun _ h => .inl h⟩
      · simp only [List.size_toArray, List.length_append, List.length_take, List.length_drop, Array.length_toList]
        omega
      · rw [htake, ← hlen]
        exact List.take_left
    · have holds : ∀ j u, xs[j]? = some u → w.drew.cell? ((⟨g, 0, none⟩ : Addr).add j) = some u := fun j u hj => by simpa using hown.cells (g := g) rfl j u hj
      have hr := run_append_grow_src (P := P) w t tx ty e i z ht hi hz (some ⟨g, 0, none⟩) n cap xs (run_firstCells_some w.drew i.size n ⟨g, 0, none⟩ n cap xs hown.1 holds) x m news hs (by omega) (by omega) (growslice_fits (by omega) hbytes)
      have hgr := grown cap (by omega) (Value.ownBlock (.slice (some ⟨g, 0, none⟩) n cap))
      exact ⟨_, _, hr, hgr.1, hgr.2, fun b hb => .inr (by simpa [Value.ownBlock] using hb.symm)⟩
theorem wp_append10 {P : Program} {w : World} {o : Oper} {a : Act} {K : Act → World → Prop} {Q : Exit → Act → World → Prop} (s x : Operand) (t tx : TypeId) (ho : o.op = .call { callee := .builtin .append, args := #[s, x], argTypes := #[t, tx] })
    {v xv v' : Value} {w' : World} (hv : a.eval s = v) (hx : a.eval x = xv) (hr : (Builtin.append_ #[t, tx] o.type #[v, xv]).run P w = .ok v' w') (hK : K (a.put o.dst v') w') : o.wp P a w K Q := by
  unfold Oper.wp execOp
  simp only [ho, resolve, invoke, builtin, Sem.run_bind, Sem.run_pure, Result.andThen_ok, List.map_toArray, List.map_cons, List.map_nil, hv, hx, hr]
  exact hK
/-- Items as cells. -/
def IE : Enc It := ⟨fun x => By x.1.1 ++ By x.2.1, 64, fun x => by rw [List.length_append, By_len, By_len], fun x u hu => by
  rcases List.mem_append.1 hu with h | h
  · exact By_one _ u h
  · exact By_one _ u h⟩
def zi : It := (zh, zh)
theorem IE_len (x : It) : (IE.c x).length = 64 := IE.len x
theorem Tryd.sizeI (x : It) : (Tryd.prog.info? 77).map (·.size) = some (IE.c x).length := by rw [IE_len]; kernel_rfl
theorem Tryd.sizeI' : (Tryd.prog.info? 77).map (·.size) = some IE.n := by kernel_rfl
theorem infoI : (Tryd.prog.info? 77).map (fun i => (i.zero, i.size, i.bytes)) = some (some (.agg (IE.c zi).toArray), IE.n, 64) := by kernel_rfl
theorem infoI9 : ∃ i z, Tryd.prog.info? 77 = some i ∧ i.zero = some z ∧ i.size = IE.n ∧ i.bytes = 64 ∧ z.cells.size = IE.n := by
  obtain ⟨i, h1, h2, h3, h4⟩ := info_parts infoI
  exact ⟨i, _, h1, h2, h3, h4, by kernel_rfl⟩
theorem built_item (parts : List (Nat × Value)) : Tryd.prog.built 77 parts = Instr.fill ((#[(0, 32), (32, 32)] : Array (Nat × Nat))[·]?) (By zh.1 ++ By zh.1).toArray parts := by kernel_rfl
theorem over_left (x y z : Hs) : over (By x.1 ++ By y.1) 0 (By z.1) = By z.1 ++ By y.1 := by
  unfold over
  rw [By_len, List.take_zero, List.nil_append, Nat.zero_add, List.drop_left' (By_len x)]
theorem over_right (x y z : Hs) : over (By x.1 ++ By y.1) 32 (By z.1) = By x.1 ++ By z.1 := by
  unfold over
  rw [By_len, List.take_left' (By_len x), List.drop_of_length_le (by rw [List.length_append, By_len, By_len]; decide), List.append_nil]
theorem build_pair (k v : Hs) (w : World) : (Instr.build 77 #[(0, .agg (By k.1).toArray), (1, .agg (By v.1).toArray)]).run Tryd.prog w = .ok (.agg (IE.c (k, v)).toArray) w := by
  refine run_build w _ _ _ ?_
  rw [built_item]
  rw [fill_row _ _ _ 0 0 _ (by rw [By_len]; rfl) (by simp [By_len]), over_left, fill_row _ _ _ 1 32 _ (by rw [By_len]; rfl) (by simp [By_len]), over_right]
  rfl
theorem build_row1 (x : It) (w : World) : (Instr.buildSlice 29 1 #[(0, .agg (IE.c x).toArray)]).run Tryd.prog w = .ok (.slice (some ⟨w.heap.size, 0, none⟩) 1 1) (w.alloc (.cells (IE.c x).toArray 77 (0, 0))) := by
  obtain ⟨i, h1, h2, h3, h4⟩ := info_parts infoI
  have h64 : i.size = 64 := h3
  refine run_buildSlice w 29 77 1 _ _ i (.agg (IE.c zi).toArray) Tryd.underlying29 h1 h2 (by rw [h64]; decide) (by rw [h64]; decide) ?_
  rw [h64]
  have hz : ((Array.range (1 * 64)).map ((Value.agg (IE.c zi).toArray).cells[· % (Value.agg (IE.c zi).toArray).cells.size]!)) = (IE.c zi).toArray := by kernel_rfl
  rw [hz, fill_row _ _ _ 0 0 _ (by rw [IE_len]) (by rw [IE_len, IE_len]; decide), over_all _ _ (by rw [IE_len, IE_len])]
  rfl
theorem wp_build_pair {o : Oper} {a : Act} {w : World} {K : Act → World → Prop} {Q : Exit → Act → World → Prop} (x y : Operand) (ho : o.op = .build 77 #[(0, x), (1, y)]) (k v : Hs) (hx : a.eval x = .agg (By k.1).toArray) (hy : a.eval y = .agg (By v.1).toArray)
    (h : K (a.put o.dst (.agg (IE.c (k, v)).toArray)) w) : o.wp Tryd.prog a w K Q := by
  have hr := build_pair k v w
  unfold Oper.wp execOp
  simp only [ho, hx, hy, hr, List.map_toArray, List.map_cons, List.map_nil, Sem.run_bind, Sem.run_pure, Result.andThen_ok]
  exact h
theorem wp_build_row {o : Oper} {a : Act} {w : World} {K : Act → World → Prop} {Q : Exit → Act → World → Prop} (x : Operand) (ho : o.op = .buildSlice 29 1 #[(0, x)]) (p : It) (hx : a.eval x = .agg (IE.c p).toArray)
    (h : K (a.put o.dst (.slice (some ⟨w.heap.size, 0, none⟩) 1 1)) (w.alloc (.cells (IE.c p).toArray 77 (0, 0)))) : o.wp Tryd.prog a w K Q := by
  have hr := build_row1 p w
  unfold Oper.wp execOp
  simp only [ho, hx, hr, List.map_toArray, List.map_cons, List.map_nil, Sem.run_bind, Sem.run_pure, Result.andThen_ok]
  exact h
/-- append(own, row...). -/
theorem wp_append_it {o : Oper} {a : Act} {w : World} {K : Act → World → Prop} {Q : Exit → Act → World → Prop} (s x : Operand) (ho : o.op = .call { callee := .builtin .append, args := #[s, x], argTypes := #[29, 29] }) (base : Nat)
    (v : Value) (L : List It) (hv : a.eval s = v) (hown : OwnG IE w base 77 v L) (xv : Value) (M : List It) (hx : a.eval x = xv) (hr : RdG IE w xv M) (hlen : L.length + M.length ≤ 10000000) (hbase : base ≤ w.heap.size)
    (h : ∀ v' w', OwnG IE w' base 77 v' (L ++ M) → w.grownBy w' v.ownBlock → (∀ b, v'.ownBlock = some b → v.ownBlock = some b ∨ b = w.heap.size) → K (a.put o.dst v') w') : o.wp Tryd.prog a w K Q := by
  obtain ⟨i, z, h1, h2, h3, h4, h5⟩ := infoI9
  obtain ⟨v', w', g1, g2, g3, g4⟩ := run_append_at (P := Tryd.prog) w base 29 29 o.type 77 i z IE.n 64 Tryd.underlying29 h1 h2 h3 h4 h5 v L.length (IE.cs L) hown xv M.length (IE.cs M) (hr.src 29 77 Tryd.underlying29) (by unfold maxLen; omega) (by omega) hbase
  refine wp_append10 s x 29 29 ho hv hx g1 (h v' w' ?_ g3 g4)
  unfold OwnG
  rw [List.length_append, Enc.cs_append]
  exact g2
theorem wp_store_map {w : World} {o : Oper} {a : Act} {K : Act → World → Prop} {Q : Exit → Act → World → Prop} (x y : Operand) (ho : o.op = .store 29 x y) (b : Nat) (T : TypeId) (u : Value) (p : Option Addr) (n c : Nat)
    (hx : a.eval x = .pointer (some ⟨b, 0, none⟩)) (hy : a.eval y = .slice p n c) (hB : Blk w b T [u]) (h : ∀ w', Blk w' b T [.slice p n c] → But b w w' → K (a.put o.dst undef) w') : o.wp Tryd.prog a w K Q := by
  have hc := hB.cell (j := 0) (v := u) rfl
  have hf := hB.frozen 0
  have hrun : (execOp a.eval o).run Tryd.prog w = .ok .skip (w.setCell ⟨b, 0, none⟩ (.slice p n c)) := by
    simp only [execOp, ho, hx, hy]
    go_simp
  unfold Oper.wp
  rw [hrun]
  exact h _ (hB.set 0 (.slice p n c)) (But.setCell b w 0 _)
theorem OwnG.form {α : Type} {E : Enc α} {w : World} {B : Nat} {e : TypeId} {v : Value} {L : List α} (h : OwnG E w B e v L) : ∃ p c, v = .slice p L.length c := by
  obtain ⟨a, c, e⟩ := h.rd.slice
  exact ⟨a, c, e⟩
#print axioms wp_append_it
#print axioms build_row1
end Go.Proofs.YtooffljimdklfaaDoor

/-
  The law's items: what the call does.
-/
namespace Go.Proofs.YtooffljimdklfaaDoor
open Go.RowKit Go.Shelf
attribute [local go_sem] Oper.semAt_some
theorem semAt_load9 {r : Option Nat} {ρ : Operand → Value} {op : Oper} {ty : TypeId} {x : Operand} (ho : op.op = .load ty x) : op.semAt r ρ = execOp ρ op := by
  cases r with
  | none => rfl
  | some l => exact Oper.semAt_some l ρ op (by rw [ho]; intro c h; cases h)
theorem semAt_store9 {r : Option Nat} {ρ : Operand → Value} {op : Oper} {ty : TypeId} {x y : Operand} (ho : op.op = .store ty x y) : op.semAt r ρ = execOp ρ op := by
  cases r with
  | none => rfl
  | some l => exact Oper.semAt_some l ρ op (by rw [ho]; intro c h; cases h)
/-- A whole array or struct is loaded, in a walk inside a fence. -/
theorem wpListIn_load_row9 {F : Fence} {n : Nat} {P : Program} {w : World} {ops : Array Oper} {rest : List Oper} {op : Oper} {a : Act} {Q : Exit → Act → World → Prop} (hgd : op.guard = none) (ty : TypeId) (x : Operand) (ho : op.op = .load ty x)
    (b o : Nat) (hx : a.eval x = .pointer (some ⟨b, o, none⟩)) (cs : List Value) (d : TypeDesc) (hc : w.rangeAt b o cs)
    (hu : P.underlying ty = some d) (hd : d.isRow = true) (hi : (P.info? ty).map (·.size) = some cs.length)
    (h : wpListIn F n P ops Q rest (a.put op.dst (.agg cs.toArray)) w) : wpListIn F n P ops Q (op :: rest) a w := by
  refine wpListIn_plain hgd fun K hK => ⟨fun f hf => ?_, ?_⟩
  · simp [Oper.about, ho] at hf
  · rw [semAt_load9 ho]
    simp only [execOp, ho, hx, Sem.run_bind, Sem.run_pure, Result.andThen_ok, run_loadAt_mid w b o ty cs d hc hu hd hi]
    exact hK _ _ h
theorem size_setCells (b : Nat) : ∀ (ds : List Value) (o : Nat) (w : World), (w.setCells b o ds).heap.size = w.heap.size
  | [], _, _ => rfl
  | d :: ds, o, w => by rw [World.setCells, size_setCells b ds (o + 1)]; simp
/-- A whole array or struct is stored over a block, in a walk inside a fence. -/
theorem wpListIn_store_blk {F : Fence} {n : Nat} {P : Program} {w : World} {ops : Array Oper} {rest : List Oper} {op : Oper} {a : Act} {Q : Exit → Act → World → Prop} (hgd : op.guard = none) (ty : TypeId) (x y : Operand) (ho : op.op = .store ty x y)
    (b : Nat) (cs ds : List Value) (T : TypeId) (hx : a.eval x = .pointer (some ⟨b, 0, none⟩)) (hy : a.eval y = .agg ds.toArray) (hB : Blk w b T cs) (hl : ds.length = cs.length)
    (hi : (P.info? ty).map (·.size) = some ds.length) (h1 : ∀ u ∈ ds, u.oneCell' = true)
    (h : ∀ w', Blk w' b T ds → But b w w' → w'.heap.size = w.heap.size → wpListIn F n P ops Q rest (a.put op.dst undef) w') : wpListIn F n P ops Q (op :: rest) a w := by
  refine wpListIn_plain hgd fun K hK => ⟨fun f hf => ?_, ?_⟩
  · simp [Oper.about, ho] at hf
  · have t0 := hB.there 0 ds.length (by omega)
    rw [semAt_store9 ho]
    simp only [execOp, ho, hx, hy, Sem.run_bind, Sem.run_pure, Result.andThen_ok, run_storeAt_mid w b 0 ty ds.toArray (by simpa using t0) (by simpa using hi) (all_one h1)]
    refine hK _ _ (h _ ?_ (But.setCells b _ 0 w) (size_setCells _ _ _ _))
    have := Blk.over ds hB 0 (by omega)
    rwa [over_all _ _ hl.symm] at this
theorem wpListIn_build_pair {l n : Nat} {ops : Array Oper} {rest : List Oper} {op : Oper} {a : Act} {w : World} {Q : Exit → Act → World → Prop} (hgd : op.guard = none) (x y : Operand) (ho : op.op = .build 77 #[(0, x), (1, y)]) (k v : Hs) (hx : a.eval x = .agg (By k.1).toArray) (hy : a.eval y = .agg (By v.1).toArray)
    (h : wpListIn (Fence.wide.inRound l) n Tryd.prog ops Q rest (a.put op.dst (.agg (IE.c (k, v)).toArray)) w) : wpListIn (Fence.wide.inRound l) n Tryd.prog ops Q (op :: rest) a w :=
  wpListIn_plain hgd fun _ hK => op_in (by rw [ho]; intro c h; cases h) (wp_build_pair x y ho k v hx hy (hK _ _ h))
theorem wpListIn_build_row {l n : Nat} {ops : Array Oper} {rest : List Oper} {op : Oper} {a : Act} {w : World} {Q : Exit → Act → World → Prop} (hgd : op.guard = none) (x : Operand) (ho : op.op = .buildSlice 29 1 #[(0, x)]) (p : It) (hx : a.eval x = .agg (IE.c p).toArray)
    (h : wpListIn (Fence.wide.inRound l) n Tryd.prog ops Q rest (a.put op.dst (.slice (some ⟨w.heap.size, 0, none⟩) 1 1)) (w.alloc (.cells (IE.c p).toArray 77 (0, 0)))) : wpListIn (Fence.wide.inRound l) n Tryd.prog ops Q (op :: rest) a w :=
  wpListIn_plain hgd fun _ hK => op_in (by rw [ho]; intro c h; cases h) (wp_build_row x ho p hx (hK _ _ h))
theorem wpListIn_append_it {l n : Nat} {ops : Array Oper} {rest : List Oper} {op : Oper} {a : Act} {w : World} {Q : Exit → Act → World → Prop} (hgd : op.guard = none) (s x : Operand) (ho : op.op = .call { callee := .builtin .append, args := #[s, x], argTypes := #[29, 29] }) (base : Nat)
    (v : Value) (L : List It) (hv : a.eval s = v) (hown : OwnG IE w base 77 v L) (xv : Value) (M : List It) (hx : a.eval x = xv) (hr : RdG IE w xv M) (hlen : L.length + M.length ≤ 10000000) (hbase : base ≤ w.heap.size)
    (h : ∀ v' w', OwnG IE w' base 77 v' (L ++ M) → w.grownBy w' v.ownBlock → (∀ b, v'.ownBlock = some b → v.ownBlock = some b ∨ b = w.heap.size) → wpListIn (Fence.wide.inRound l) n Tryd.prog ops Q rest (a.put op.dst v') w') : wpListIn (Fence.wide.inRound l) n Tryd.prog ops Q (op :: rest) a w :=
  wpListIn_plain hgd fun _ hK => op_in (by rw [ho]; intro c h; cases h) (wp_append_it s x ho base v L hv hown xv M hx hr hlen hbase (fun v' w' h1 h2 h3 => hK _ _ (h v' w' h1 h2 h3)))
theorem wpListIn_store_map {l n0 : Nat} {ops : Array Oper} {rest : List Oper} {op : Oper} {a : Act} {w : World} {Q : Exit → Act → World → Prop} (hgd : op.guard = none) (x y : Operand) (ho : op.op = .store 29 x y) (b : Nat) (T : TypeId) (u : Value) (p : Option Addr) (n c : Nat)
    (hx : a.eval x = .pointer (some ⟨b, 0, none⟩)) (hy : a.eval y = .slice p n c) (hB : Blk w b T [u]) (h : ∀ w', Blk w' b T [.slice p n c] → But b w w' → wpListIn (Fence.wide.inRound l) n0 Tryd.prog ops Q rest (a.put op.dst undef) w') : wpListIn (Fence.wide.inRound l) n0 Tryd.prog ops Q (op :: rest) a w :=
  wpListIn_plain hgd fun _ hK => op_in (by rw [ho]; intro c h; cases h) (wp_store_map x y ho b T u p n c hx hy hB (fun w' h1 h2 => hK _ _ (h w' h1 h2)))
/-- As many as are wanted. -/
def takeM (L : List It) (m : Int) : List It := if m < 0 then L else L.take m.toNat
/-- What is kept while items are told. -/
structure II (w3 : World) (N E : Nat) (m : Int) (B : Nat) (pre : List It) (X : World) : Prop where
  own : ∃ v, Blk X E 29 [v] ∧ OwnG IE X N 77 v pre ∧ ∀ b, v.ownBlock = some b → B ≤ b
  c : Chg (fun k => k = E ∨ B ≤ k) w3 X
  s : w3.heap.size < B
  t : B ≤ X.heap.size
  le : 0 ≤ m → (pre.length : Int) ≤ m
theorem II.chg {w3 : World} {N E : Nat} {m : Int} {B : Nat} {pre : List It} {X Y : World} (h : II w3 N E m B pre X) {G : Nat → Prop} (hc : Chg G X Y) (hE : ¬ G E) (hG : ∀ k, G k → k < w3.heap.size → False) (hO : ∀ k cur, G k → X.heap[k]? ≠ some (.cells cur 77 (0, 0))) : II w3 N E m B pre Y := by
  obtain ⟨v, h1, h2, h3⟩ := h.own
  refine ⟨⟨v, h1.chg hc hE, h2.chg hc (fun b hb hg => ?_), h3⟩, h.c.then hc (fun i hi hg => (hG i hg hi).elim), h.s, Nat.le_trans h.t hc.size, h.le⟩
  obtain ⟨_, _, cur, hcur⟩ := h2.block hb
  exact hO b cur hg hcur
/-- What a call of All leaves. -/
def AllOk (B0 : Nat) (w : World) (pv : Value) (L : List It) : Prop := ∃ q, TopOf B0 w (.pointer q) L ∧ ∀ W, Below w.heap.size w W → Calls Tryd.prog 49 #[pv] W fun e w' => ∃ E, e = .returned (.func (.func 63) #[] #[PT E]) ∧ W.heap.size ≤ E ∧ Blk w' E 58 [.pointer q] ∧ Below W.heap.size W w'
theorem TrieAt.all {B0 : Nat} {w : World} {p : Nat} {L : List It} (h : TrieAt B0 w p L) : AllOk B0 w (PT p) L := by
  obtain ⟨top, hB, hs, h1⟩ := h
  have hTO : TopOf B0 w top L := h1
  obtain ⟨q, rfl⟩ := hTO.ptr
  exact ⟨q, hTO, fun W hW => tAll_any (hB.kept hW)⟩
end Go.Proofs.YtooffljimdklfaaDoor

/-
  (*Trie).Root: what the call does.
-/
namespace Go.Proofs.YtooffljimdklfaaDoor
open Go.RowKit
set_option maxHeartbeats 2000000 in
set_option maxRecDepth 100000 in
theorem tRoot_any {B0 : Nat} {w : World} {p : Nat} {L : List It} (h2 : 2 ≤ B0) (h : TrieAt B0 w p L) (hT : Tabs w) (hG : B0 ≤ w.heap.size) : Calls Tryd.prog 22 #[PT p] w fun e w' => e = .returned (HV (rootP L)) ∧ Tch B0 w w' := by
  obtain ⟨top, hB, hs, h1⟩ := h
  obtain ⟨N, HN⟩ : ∃ N, Hid (w.heap.size = N) := ⟨_, rfl⟩
  obtain ⟨rt, HR⟩ : ∃ z, Hid (rootP L = z) := ⟨_, rfl⟩
  rw [HR.out]
  have hpN : p < N := by rw [← HN.out]; exact hB.lt
  generalize (L.length : Int) = sz at hB
  have HBK := hide hB
  have HX := hide h1
  have HT := hide hT
  have HG := hide hG
  clear hB h1 hT hG hs
  go_enter Tryd.func22, Tryd.ntmps22
  go_upto_region 1 with fail
  obtain ⟨w1, hw1⟩ : ∃ z, z = w.alloc (.cells (By zh.1).toArray 24 (0, 0)) := ⟨_, rfl⟩
  change Code.wp _ _ _ _ (w.alloc (.cells (By zh.1).toArray 24 (0, 0)))
  rw [← hw1, HN.out]
  have V1 : Hid (Blk w1 N 24 (By zh.1)) := (show Blk _ _ _ _ by rw [hw1, ← HN.out]; exact Blk.new w 24 (By zh.1))
  have L1 : Hid (Below w.heap.size w w1) := (show Below _ _ _ by rw [hw1]; exact (Below.refl _ _).alloc (Nat.le_refl _) _)
  clear hw1
  have T1 := hide (HBK.out.kept L1.out)
  have TB1 := hide (HT.out.gr L1.out)
  have CM := hide (tisMade_any T1.out)
  have c1 := T1.out.cell (j := 1) rfl
  rcases HX.out with ⟨rfl, rfl⟩ | ⟨b, rfl, hn⟩
  · have e1 : Hid (rt = ntH) := HR.out.symm
    go_wp2_with (first
      | (go_at_call 41; refine CM.out.mono ?_; rintro e w' ⟨rfl, hw'⟩; subst w')
      | fail)
    refine (hnothing_any _ TB1.out).mono ?_
    rintro e w2 ⟨rfl, hb2⟩
    have V2 := hide (V1.out.kept hb2)
    have L2 : Hid (Below w.heap.size w w2) := (show _ from L1.out.trans (hb2.mono L1.out.size))
    clear hb2 c1
    go_wp2_with (first
      | (refine wpList_store_blk rfl 24 _ _ rfl N (By zh.1) (By ntH.1) 24 rfl rfl V2.out (by rw [By_len, By_len]) (Tryd.sizeH ntH) (By_one _) ?_; intro w7 hb7 hu7)
      | fail)
    refine bodyPost_ret (ret_hash rfl _ _ N ntH rfl hb7) rfl ⟨by rw [e1.out], ?_⟩
    exact .of_below (L2.out.trans (hu7.below (Nat.le_of_eq HN.out) L2.out.size))
  · have CR := hide (nroot_any h2 b L w1 (hn.kept L1.out) TB1.out (Nat.le_trans HG.out L1.out.size))
    rw [HR.out] at CR
    have hb := hn.lt
    clear hn
    go_wp2_with (first
      | (go_at_call 41; refine CM.out.mono ?_; rintro e w' ⟨rfl, hw'⟩; subst w')
      | fail)
    refine CR.out.mono ?_
    rintro e w2 ⟨rfl, ht2⟩
    have V2 := hide (V1.out.tb ht2 (by rw [HN.out] at hb; omega))
    have T2 : Hid (Tb B0 (b + 1) w w2) := (show _ from (Tb.of_below L1.out).trans ht2)
    clear ht2 c1 CR CM
    go_wp2_with (first
      | (refine wpList_store_blk rfl 24 _ _ rfl N (By zh.1) (By rt.1) 24 rfl rfl V2.out (by rw [By_len, By_len]) (Tryd.sizeH rt) (By_one _) ?_; intro w7 hb7 hu7)
      | fail)
    refine bodyPost_ret (ret_hash rfl _ _ N rt rfl hb7) rfl ⟨rfl, ?_⟩
    exact (T2.out.but hu7 (Nat.le_of_eq HN.out)).tch
#print axioms tRoot_any
end Go.Proofs.YtooffljimdklfaaDoor
