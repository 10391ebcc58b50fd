/-
  The law's act: what it does to both stores.
-/
import Derived.Test.YtgaoionnfkbhaaaRfJ
import Derived.Test.YtgaoionnfkbhaaaRegion8
namespace Go.Proofs.Ytgaoionnfkbhaaa
open Go.RowKit
/-- Between the calls: E holds the act. -/
def AT (w w0 : World) (D R i : Nat) (s s' : SP) (O : Nat → Prop) (E : Nat) (cs : List Value) (k : Nat) (w' : World) : Prop :=
  (match k with | 0 => LR2 w w' D R i s s (fun b => O b ∨ b = E) | 1 => LR2 w w' D R (i + 1) s' s (fun b => O b ∨ b = E) | _ => LR2 w w' D R (i + 2) s' s' (fun b => O b ∨ b = E)) ∧ Blk w' E 33 cs ∧ Same O w0 w' ∧ w0.heap.size ≤ w'.heap.size
theorem AT.last {w w0 : World} {D R i : Nat} {s s' : SP} {O : Nat → Prop} {E : Nat} {cs : List Value} {k : Nat} {w' : World} (h : AT w w0 D R i s s' O E cs k w') (hk : k ≤ 1) : w'.cell? ⟨R, 1, none⟩ = some (.int .i64 s.last) := by
  have : ∃ vr rs, RS w' R vr rs s := by
    have h1 := h.1
    match k, hk, h1 with
    | 0, _, h1 => obtain ⟨vr, rs, h2, -⟩ := LR2.rs h1; exact ⟨vr, rs, h2⟩
    | 1, _, h1 => obtain ⟨vr, rs, h2, -⟩ := LR2.rs h1; exact ⟨vr, rs, h2⟩
  obtain ⟨vr, rs, h2⟩ := this
  exact h2.d.cell (j := 1) rfl
theorem AT.kept {w w0 : World} {D R i : Nat} {s s' : SP} {O : Nat → Prop} {E : Nat} {cs : List Value} {w1 w' : World} (h : AT w w0 D R i s s' O E cs 0 w1) (hb : Below w1.heap.size w1 w') : AT w w0 D R i s s' O E cs 0 w' := by
  refine ⟨LR2.kept h.1 hb, h.2.1.kept hb, fun b hO => ?_, Nat.le_trans h.2.2.2 hb.size⟩
  rw [← h.2.2.1 b hO]
  obtain ⟨M, vk, ks, -, -, -, h4⟩ := (LR2.ls h.1)
  exact hb.block b (h4 b (.inl hO)).1
theorem AT.next {w w0 : World} {D R i : Nat} {s s' : SP} {O : Nat → Prop} {E : Nat} {cs : List Value} {k : Nat} {w1 w' : World} (h : AT w w0 D R i s s' O E cs k w1)
    (h1 : match k + 1 with | 0 => LR2 w w' D R i s s (fun b => O b ∨ b = E) | 1 => LR2 w w' D R (i + 1) s' s (fun b => O b ∨ b = E) | _ => LR2 w w' D R (i + 2) s' s' (fun b => O b ∨ b = E)) (h2 : Same (fun b => O b ∨ b = E) w1 w') (h3 : w1.heap.size ≤ w'.heap.size) : AT w w0 D R i s s' O E cs (k + 1) w' :=
  ⟨h1, h.2.1.same h2 (.inr rfl), h.2.2.1.trans (h2.less (fun _ hb => .inl hb)), Nat.le_trans h.2.2.2 h3⟩
set_option maxRecDepth 100000 in
set_option maxHeartbeats 4000000 in
theorem act_any {w wr : World} {D R i : Nat} {s : SP} {O : Nat → Prop} (h : LR2 w wr D R i s s O) (hi : i ≤ 900) {a : Ac} (ha : AcOk w a) (hL : a.l.length ≤ 60) :
    Calls Try.prog 12 #[.pointer (some ⟨D, 0, none⟩), .pointer (some ⟨R, 0, none⟩), .agg (AC a).toArray] wr fun e w' => e = .returned (.bool true) ∧ LR2 w w' D R (i + 2) (actS s a.kind a.n a.l) (actS s a.kind a.n a.l) O ∧ Same O wr w' ∧ wr.heap.size ≤ w'.heap.size := by
  have HH := hide h
  have HA := hide ha
  have HL60 := hide hL
  have hbn := h.bnd
  clear h ha hL
  obtain ⟨s', HS'⟩ : ∃ x, Hid (actS s a.kind a.n a.l = x) := ⟨_, rfl⟩
  rw [HS'.out]
  obtain ⟨kd, xn, xm, ad, ln, cpa, pl, fr, tt⟩ := a
  simp only at HL60 HS'
  have L1 : Hid (Below wr.heap.size wr (wr.alloc (.cells (AC ⟨kd, xn, xm, ad, ln, cpa, pl, fr, tt⟩).toArray 33 (0, 0)))) := (Below.refl _ _).alloc (Nat.le_refl _) _
  have B1 := hide (Blk.new wr 33 (AC ⟨kd, xn, xm, ad, ln, cpa, pl, fr, tt⟩))
  go_enter Try.func12, Try.ntmps12
  go_upto_region 1 with fail
  obtain ⟨E, HE⟩ : ∃ E, Hid (wr.heap.size = E) := ⟨_, rfl⟩
  obtain ⟨w1, hw1⟩ : ∃ x, x = wr.alloc (.cells (AC ⟨kd, xn, xm, ad, ln, cpa, pl, fr, tt⟩).toArray 33 (0, 0)) := ⟨_, rfl⟩
  rw [← hw1] at L1 B1 ⊢
  rw [HE.out] at B1 ⊢
  clear hw1
  have H1 := hide (HH.out.own L1.out (Nat.le_of_eq HE.out) B1.out.lt)
  have SM1 : Hid (Same O wr w1) := (show Same O wr w1 from fun b hO => by
    obtain ⟨M, vk, ks, -, -, -, h4⟩ := HH.out.ls
    exact L1.out.block b (h4 b hO).1)
  have A1 : Hid (AT w wr D R i s s' O E (AC ⟨kd, xn, xm, ad, ln, cpa, pl, fr, tt⟩) 0 w1) := ⟨H1.out, B1.out, SM1.out, L1.out.size⟩
  have c0 : w1.cell? ⟨E, 0, none⟩ = some (.int .i64 kd) := B1.out.cell (j := 0) rfl
  by_cases h0 : kd = 0
  · subst h0
    have h' : s' = instP s (s.last + 1) pl := HS'.out.symm
    subst h'
    obtain ⟨er, HER⟩ : ∃ x : Int, Hid ((if instOk s (s.last + 1) pl = true then 0 else 2) = x) := ⟨_, rfl⟩
    go_upto_region 3 with fail
    clear c0
    refine wp_region_chain8 Try.mixed (fun i_ => match i_ with | 0 => .pointer (some ⟨D, 0, none⟩) | 1 | 2 | 9 | 10 | 11 => .pointer (some ⟨R, 0, none⟩) | 3 | 12 => .pointer (some ⟨R, 1, none⟩) | 4 | 13 => .int .i64 s.last | 5 | 14 => .int .i64 (s.last + 1) | 6 | 15 => .pointer (some ⟨E, 3, none⟩) | 7 | 16 => .slice ad ln cpa | 8 | 17 => .int .i64 er | 18 | 19 => .bool true | _ => undef) (AT w wr D R i s (instP s (s.last + 1) pl) O E (AC ⟨0, xn, xm, ad, ln, cpa, pl, fr, tt⟩)) [8, 17] [[8]] 128 rfl (by decide +kernel) (by decide +kernel) (by decide) (by decide +kernel) ?_ ?_ ?_
    · exact fun w' hh hg => A1.out.kept hg
    · refine AllFrom.cons ?_ (AllFrom.cons ?_ (AllFrom.cons ?_ (AllFrom.cons ?_ (AllFrom.cons ?_ (AllFrom.cons ?_ (AllFrom.cons ?_ (AllFrom.cons ?_ (AllFrom.cons ?_ (AllFrom.cons ?_ (AllFrom.cons ?_ (AllFrom.cons ?_ (AllFrom.cons ?_ (AllFrom.cons ?_ (AllFrom.cons ?_ (AllFrom.cons ?_ (AllFrom.cons ?_ (AllFrom.cons ?_ (AllFrom.cons ?_ (AllFrom.cons ?_ AllFrom.nil)))))))))))))))))))
      · -- 0: Op.move (Operand.tmp 0)
        refine ⟨.inl rfl, .inl ⟨by decide, 0, 0, [], [0], by decide +kernel, by decide +kernel, ?_⟩⟩
        intro s_ a' w' hlo hhi hsl hk hd hT
        have e0 : a'.eval (.tmp 0) = .pointer (some ⟨D, 0, none⟩) := hk.at 0 (by decide +kernel)
        simp only [execOp, e0]
        rfl
      · -- 1: Op.move (Operand.tmp 1)
        refine ⟨.inl rfl, .inl ⟨by decide, 0, 0, [], [5, 4, 3, 2, 1], by decide +kernel, by decide +kernel, ?_⟩⟩
        intro s_ a' w' hlo hhi hsl hk hd hT
        have e1 : a'.eval (.tmp 1) = .pointer (some ⟨R, 0, none⟩) := hk.at 1 (by decide +kernel)
        simp only [execOp, e1]
        rfl
      · -- 2: Op.nilCheck (Operand.tmp 20)
        refine ⟨.inl rfl, .inl ⟨by decide, 0, 0, [], [5, 4, 3, 2], by decide +kernel, by decide +kernel, ?_⟩⟩
        intro s_ a' w' hlo hhi hsl hk hd hT
        have e20 : a'.eval (.tmp 20) = .pointer (some ⟨R, 0, none⟩) := hd 1 20 (by decide +kernel)
        clear hd hk hT
        simp only [execOp, e20]
        go_simp
      · -- 3: Op.fieldAddr 30 (Operand.tmp 21) 1
        refine ⟨.inl rfl, .inl ⟨by decide, 0, 0, [], [5, 4, 3], by decide +kernel, by decide +kernel, ?_⟩⟩
        intro s_ a' w' hlo hhi hsl hk hd hT
        have e21 : a'.eval (.tmp 21) = .pointer (some ⟨R, 0, none⟩) := hd 2 21 (by decide +kernel)
        clear hd hk hT
        simp only [execOp, e21]
        go_simp
      · -- 4: Op.load 3 (Operand.tmp 22)
        refine ⟨.inl rfl, .inl ⟨by decide, 0, 0, [], [5, 4], by decide +kernel, by decide +kernel, ?_⟩⟩
        intro s_ a' w' hlo hhi hsl hk hd hT
        have e22 : a'.eval (.tmp 22) = .pointer (some ⟨R, 1, none⟩) := hd 3 22 (by decide +kernel)
        have cc := hT.last (by omega)
        clear hd hk
        simp only [execOp, e22]
        go_simp
      · -- 5: Op.binOp BinOp.add 3 (Operand.tmp 23) (Operand.const (Value.
        refine ⟨.inl rfl, .inl ⟨by decide, 0, 0, [], [5], by decide +kernel, by decide +kernel, ?_⟩⟩
        intro s_ a' w' hlo hhi hsl hk hd hT
        have e23 : a'.eval (.tmp 23) = .int .i64 s.last := hd 4 23 (by decide +kernel)
        simp only [execOp, e23]
        go_simp
        exact wr64 (by omega) (by omega)
      · -- 6: Op.fieldAddr 33 (Operand.tmp 5) 3
        refine ⟨.inl rfl, .inl ⟨by decide, 0, 0, [], [7, 6], by decide +kernel, by decide +kernel, ?_⟩⟩
        intro s_ a' w' hlo hhi hsl hk hd hT
        have e5 : a'.eval (.tmp 5) = .pointer (some ⟨E, 0, none⟩) := hk.at 5 (by decide +kernel)
        clear hd hk hT
        simp only [execOp, e5]
        go_simp
      · -- 7: Op.load 31 (Operand.tmp 25)
        refine ⟨.inl rfl, .inl ⟨by decide, 0, 0, [], [7], by decide +kernel, by decide +kernel, ?_⟩⟩
        intro s_ a' w' hlo hhi hsl hk hd hT
        have e25 : a'.eval (.tmp 25) = .pointer (some ⟨E, 3, none⟩) := hd 6 25 (by decide +kernel)
        have cc : w'.cell? ⟨E, 3, none⟩ = some (.slice ad ln cpa) := hT.2.1.cell (j := 3) rfl
        clear hd hk
        simp only [execOp, e25]
        go_simp
      · -- 8: Op.call ( callee := Callee.value (Operand.func 24), args := 
        refine ⟨.inl rfl, .inr ⟨0, rfl, ?_⟩⟩
        intro a' w' hk hd hT
        have e19 : a'.eval (.tmp 19) = .pointer (some ⟨D, 0, none⟩) := hd 0 19 (by decide +kernel)
        have e24 : a'.eval (.tmp 24) = .int .i64 (s.last + 1) := hd 5 24 (by decide +kernel)
        have e26 : a'.eval (.tmp 26) = .slice ad ln cpa := hd 7 26 (by decide +kernel)
        refine wp_call_at 24 _ _ (run_enter 24 _ _ rfl (by kernel_rfl)) ?_
        simp only [List.map_toArray, List.map_nil, List.map_cons, e19, e24, e26]
        refine (hT.1.install (by omega) HA.out.r HL60.out (s.last + 1)).mono ?_
        rintro e_ w2 ⟨he, k1, k2, k3⟩
        rw [HER.out] at he
        exact ⟨he, hT.next k1 k2 k3⟩
      · -- 9: Op.move (Operand.tmp 1)
        refine ⟨.inl rfl, .inl ⟨by decide, 0, 1, [], [9], by decide +kernel, by decide +kernel, ?_⟩⟩
        intro s_ a' w' hlo hhi hsl hk hd hT
        have e1 : a'.eval (.tmp 1) = .pointer (some ⟨R, 0, none⟩) := hk.at 1 (by decide +kernel)
        simp only [execOp, e1]
        rfl
      · -- 10: Op.move (Operand.tmp 1)
        refine ⟨.inl rfl, .inl ⟨by decide, 0, 1, [], [14, 13, 12, 11, 10], by decide +kernel, by decide +kernel, ?_⟩⟩
        intro s_ a' w' hlo hhi hsl hk hd hT
        have e1 : a'.eval (.tmp 1) = .pointer (some ⟨R, 0, none⟩) := hk.at 1 (by decide +kernel)
        simp only [execOp, e1]
        rfl
      · -- 11: Op.nilCheck (Operand.tmp 29)
        refine ⟨.inl rfl, .inl ⟨by decide, 0, 1, [], [14, 13, 12, 11], by decide +kernel, by decide +kernel, ?_⟩⟩
        intro s_ a' w' hlo hhi hsl hk hd hT
        have e29 : a'.eval (.tmp 29) = .pointer (some ⟨R, 0, none⟩) := hd 10 29 (by decide +kernel)
        clear hd hk hT
        simp only [execOp, e29]
        go_simp
      · -- 12: Op.fieldAddr 30 (Operand.tmp 30) 1
        refine ⟨.inl rfl, .inl ⟨by decide, 0, 1, [], [14, 13, 12], by decide +kernel, by decide +kernel, ?_⟩⟩
        intro s_ a' w' hlo hhi hsl hk hd hT
        have e30 : a'.eval (.tmp 30) = .pointer (some ⟨R, 0, none⟩) := hd 11 30 (by decide +kernel)
        clear hd hk hT
        simp only [execOp, e30]
        go_simp
      · -- 13: Op.load 3 (Operand.tmp 31)
        refine ⟨.inl rfl, .inl ⟨by decide, 0, 1, [], [14, 13], by decide +kernel, by decide +kernel, ?_⟩⟩
        intro s_ a' w' hlo hhi hsl hk hd hT
        have e31 : a'.eval (.tmp 31) = .pointer (some ⟨R, 1, none⟩) := hd 12 31 (by decide +kernel)
        have cc := hT.last (by omega)
        clear hd hk
        simp only [execOp, e31]
        go_simp
      · -- 14: Op.binOp BinOp.add 3 (Operand.tmp 32) (Operand.const (Value.
        refine ⟨.inl rfl, .inl ⟨by decide, 0, 1, [], [14], by decide +kernel, by decide +kernel, ?_⟩⟩
        intro s_ a' w' hlo hhi hsl hk hd hT
        have e32 : a'.eval (.tmp 32) = .int .i64 s.last := hd 13 32 (by decide +kernel)
        simp only [execOp, e32]
        go_simp
        exact wr64 (by omega) (by omega)
      · -- 15: Op.fieldAddr 33 (Operand.tmp 5) 3
        refine ⟨.inl rfl, .inl ⟨by decide, 0, 1, [], [16, 15], by decide +kernel, by decide +kernel, ?_⟩⟩
        intro s_ a' w' hlo hhi hsl hk hd hT
        have e5 : a'.eval (.tmp 5) = .pointer (some ⟨E, 0, none⟩) := hk.at 5 (by decide +kernel)
        clear hd hk hT
        simp only [execOp, e5]
        go_simp
      · -- 16: Op.load 31 (Operand.tmp 34)
        refine ⟨.inl rfl, .inl ⟨by decide, 0, 1, [], [16], by decide +kernel, by decide +kernel, ?_⟩⟩
        intro s_ a' w' hlo hhi hsl hk hd hT
        have e34 : a'.eval (.tmp 34) = .pointer (some ⟨E, 3, none⟩) := hd 15 34 (by decide +kernel)
        have cc : w'.cell? ⟨E, 3, none⟩ = some (.slice ad ln cpa) := hT.2.1.cell (j := 3) rfl
        clear hd hk
        simp only [execOp, e34]
        go_simp
      · -- 17: Op.call ( callee := Callee.value (Operand.func 29), args := 
        refine ⟨.inl rfl, .inr ⟨1, rfl, ?_⟩⟩
        intro a' w' hk hd hT
        have e28 : a'.eval (.tmp 28) = .pointer (some ⟨R, 0, none⟩) := hd 9 28 (by decide +kernel)
        have e33 : a'.eval (.tmp 33) = .int .i64 (s.last + 1) := hd 14 33 (by decide +kernel)
        have e35 : a'.eval (.tmp 35) = .slice ad ln cpa := hd 16 35 (by decide +kernel)
        refine wp_call_at 29 _ _ (run_enter 29 _ _ rfl (by kernel_rfl)) ?_
        simp only [List.map_toArray, List.map_nil, List.map_cons, e28, e33, e35]
        refine (hT.1.vinstall (by omega) HA.out.r HL60.out (s.last + 1)).mono ?_
        rintro e_ w2 ⟨he, k1, k2, k3⟩
        rw [HER.out] at he
        exact ⟨he, hT.next k1 k2 k3⟩
      · -- 18: Op.binOp BinOp.eql 3 (Operand.tmp 27) (Operand.tmp 36) 3
        refine ⟨.inl rfl, .inl ⟨by decide, 2, 2, [17], [], by decide +kernel, by decide +kernel, ?_⟩⟩
        intro s_ a' w' hlo hhi hsl hk hd hT
        have e27 : a'.eval (.tmp 27) = .int .i64 er := hd 8 27 (by decide +kernel)
        have e36 : a'.eval (.tmp 36) = .int .i64 er := hd 17 36 (by decide +kernel)
        clear hd hk hT
        simp only [execOp, e27, e36]
        go_simp
      · -- 19: Op.assign (Operand.tmp 37)
        refine ⟨.inl rfl, .inl ⟨by decide, 2, 2, [17], [], by decide +kernel, by decide +kernel, ?_⟩⟩
        intro s_ a' w' hlo hhi hsl hk hd hT
        have e37 : a'.eval (.tmp 37) = .bool true := hd 18 37 (by decide +kernel)
        simp only [execOp, e37]
        rfl
    · intro a' w9 hsz hdf hk hall hT
      have e19 : a'.eval (.tmp 19) = .pointer (some ⟨D, 0, none⟩) := hall 0 _ 19 rfl rfl
      have e20 : a'.eval (.tmp 20) = .pointer (some ⟨R, 0, none⟩) := hall 1 _ 20 rfl rfl
      have e21 : a'.eval (.tmp 21) = .pointer (some ⟨R, 0, none⟩) := hall 2 _ 21 rfl rfl
      have e22 : a'.eval (.tmp 22) = .pointer (some ⟨R, 1, none⟩) := hall 3 _ 22 rfl rfl
      have e23 : a'.eval (.tmp 23) = .int .i64 s.last := hall 4 _ 23 rfl rfl
      have e24 : a'.eval (.tmp 24) = .int .i64 (s.last + 1) := hall 5 _ 24 rfl rfl
      have e25 : a'.eval (.tmp 25) = .pointer (some ⟨E, 3, none⟩) := hall 6 _ 25 rfl rfl
      have e26 : a'.eval (.tmp 26) = .slice ad ln cpa := hall 7 _ 26 rfl rfl
      have e27 : a'.eval (.tmp 27) = .int .i64 er := hall 8 _ 27 rfl rfl
      have e28 : a'.eval (.tmp 28) = .pointer (some ⟨R, 0, none⟩) := hall 9 _ 28 rfl rfl
      have e29 : a'.eval (.tmp 29) = .pointer (some ⟨R, 0, none⟩) := hall 10 _ 29 rfl rfl
      have e30 : a'.eval (.tmp 30) = .pointer (some ⟨R, 0, none⟩) := hall 11 _ 30 rfl rfl
      have e31 : a'.eval (.tmp 31) = .pointer (some ⟨R, 1, none⟩) := hall 12 _ 31 rfl rfl
      have e32 : a'.eval (.tmp 32) = .int .i64 s.last := hall 13 _ 32 rfl rfl
      have e33 : a'.eval (.tmp 33) = .int .i64 (s.last + 1) := hall 14 _ 33 rfl rfl
      have e34 : a'.eval (.tmp 34) = .pointer (some ⟨E, 3, none⟩) := hall 15 _ 34 rfl rfl
      have e35 : a'.eval (.tmp 35) = .slice ad ln cpa := hall 16 _ 35 rfl rfl
      have e36 : a'.eval (.tmp 36) = .int .i64 er := hall 17 _ 36 rfl rfl
      have e37 : a'.eval (.tmp 37) = .bool true := hall 18 _ 37 rfl rfl
      have e6 : a'.eval (.tmp 6) = .bool true := hall 19 _ 6 rfl rfl
      have ha := act_puts 128 rfl hsz hdf hk [19, 20, 21, 22, 23, 24, 25, 26, 27, 28, 29, 30, 31, 32, 33, 34, 35, 36, 37, 6] (by decide +kernel)
      simp only [puts, List.foldl_cons, List.foldl_nil, e19, e20, e21, e22, e23, e24, e25, e26, e27, e28, e29, e30, e31, e32, e33, e34, e35, e36, e37, e6] at ha
      simp only [Act.put, List.setIfInBounds_toArray, List.set_cons_succ, List.set_cons_zero] at ha
      clear hall hk hsz hdf e19 e20 e21 e22 e23 e24 e25 e26 e27 e28 e29 e30 e31 e32 e33 e34 e35 e36 e37 e6
      subst ha
      have H9 := hide hT
      clear hT
      go_wp2_with fail
      go_ret
      exact ⟨rfl, H9.out.1.less (fun b hb => .inl hb), H9.out.2.2.1, H9.out.2.2.2⟩
  · by_cases h1 : kd = 1
    · subst h1
      have h' : s' = instP s xn pl := HS'.out.symm
      subst h'
      obtain ⟨er, HER⟩ : ∃ x : Int, Hid ((if instOk s xn pl = true then 0 else 2) = x) := ⟨_, rfl⟩
      go_upto_region 5 with fail
      clear c0
      refine wp_region_chain8 Try.mixed (fun i_ => match i_ with | 0 => .pointer (some ⟨D, 0, none⟩) | 1 | 7 => .pointer (some ⟨E, 1, none⟩) | 2 | 8 => .int .i64 xn | 3 | 9 => .pointer (some ⟨E, 3, none⟩) | 4 | 10 => .slice ad ln cpa | 5 | 11 => .int .i64 er | 6 => .pointer (some ⟨R, 0, none⟩) | 12 | 13 => .bool true | _ => undef) (AT w wr D R i s (instP s xn pl) O E (AC ⟨1, xn, xm, ad, ln, cpa, pl, fr, tt⟩)) [5, 11] [[5]] 128 rfl (by decide +kernel) (by decide +kernel) (by decide) (by decide +kernel) ?_ ?_ ?_
      · exact fun w' hh hg => A1.out.kept hg
      · refine AllFrom.cons ?_ (AllFrom.cons ?_ (AllFrom.cons ?_ (AllFrom.cons ?_ (AllFrom.cons ?_ (AllFrom.cons ?_ (AllFrom.cons ?_ (AllFrom.cons ?_ (AllFrom.cons ?_ (AllFrom.cons ?_ (AllFrom.cons ?_ (AllFrom.cons ?_ (AllFrom.cons ?_ (AllFrom.cons ?_ AllFrom.nil)))))))))))))
        · -- 0: Op.move (Operand.tmp 0)
          refine ⟨.inl rfl, .inl ⟨by decide, 0, 0, [], [0], by decide +kernel, by decide +kernel, ?_⟩⟩
          intro s_ a' w' hlo hhi hsl hk hd hT
          have e0 : a'.eval (.tmp 0) = .pointer (some ⟨D, 0, none⟩) := hk.at 0 (by decide +kernel)
          simp only [execOp, e0]
          rfl
        · -- 1: Op.fieldAddr 33 (Operand.tmp 5) 1
          refine ⟨.inl rfl, .inl ⟨by decide, 0, 0, [], [2, 1], by decide +kernel, by decide +kernel, ?_⟩⟩
          intro s_ a' w' hlo hhi hsl hk hd hT
          have e5 : a'.eval (.tmp 5) = .pointer (some ⟨E, 0, none⟩) := hk.at 5 (by decide +kernel)
          clear hd hk hT
          simp only [execOp, e5]
          go_simp
        · -- 2: Op.load 3 (Operand.tmp 41)
          refine ⟨.inl rfl, .inl ⟨by decide, 0, 0, [], [2], by decide +kernel, by decide +kernel, ?_⟩⟩
          intro s_ a' w' hlo hhi hsl hk hd hT
          have e41 : a'.eval (.tmp 41) = .pointer (some ⟨E, 1, none⟩) := hd 1 41 (by decide +kernel)
          have cc : w'.cell? ⟨E, 1, none⟩ = some (.int .i64 xn) := hT.2.1.cell (j := 1) rfl
          clear hd hk
          simp only [execOp, e41]
          go_simp
        · -- 3: Op.fieldAddr 33 (Operand.tmp 5) 3
          refine ⟨.inl rfl, .inl ⟨by decide, 0, 0, [], [4, 3], by decide +kernel, by decide +kernel, ?_⟩⟩
          intro s_ a' w' hlo hhi hsl hk hd hT
          have e5 : a'.eval (.tmp 5) = .pointer (some ⟨E, 0, none⟩) := hk.at 5 (by decide +kernel)
          clear hd hk hT
          simp only [execOp, e5]
          go_simp
        · -- 4: Op.load 31 (Operand.tmp 43)
          refine ⟨.inl rfl, .inl ⟨by decide, 0, 0, [], [4], by decide +kernel, by decide +kernel, ?_⟩⟩
          intro s_ a' w' hlo hhi hsl hk hd hT
          have e43 : a'.eval (.tmp 43) = .pointer (some ⟨E, 3, none⟩) := hd 3 43 (by decide +kernel)
          have cc : w'.cell? ⟨E, 3, none⟩ = some (.slice ad ln cpa) := hT.2.1.cell (j := 3) rfl
          clear hd hk
          simp only [execOp, e43]
          go_simp
        · -- 5: Op.call ( callee := Callee.value (Operand.func 24), args := 
          refine ⟨.inl rfl, .inr ⟨0, rfl, ?_⟩⟩
          intro a' w' hk hd hT
          have e40 : a'.eval (.tmp 40) = .pointer (some ⟨D, 0, none⟩) := hd 0 40 (by decide +kernel)
          have e42 : a'.eval (.tmp 42) = .int .i64 xn := hd 2 42 (by decide +kernel)
          have e44 : a'.eval (.tmp 44) = .slice ad ln cpa := hd 4 44 (by decide +kernel)
          refine wp_call_at 24 _ _ (run_enter 24 _ _ rfl (by kernel_rfl)) ?_
          simp only [List.map_toArray, List.map_nil, List.map_cons, e40, e42, e44]
          refine (hT.1.install (by omega) HA.out.r HL60.out xn).mono ?_
          rintro e_ w2 ⟨he, k1, k2, k3⟩
          rw [HER.out] at he
          exact ⟨he, hT.next k1 k2 k3⟩
        · -- 6: Op.move (Operand.tmp 1)
          refine ⟨.inl rfl, .inl ⟨by decide, 0, 1, [], [6], by decide +kernel, by decide +kernel, ?_⟩⟩
          intro s_ a' w' hlo hhi hsl hk hd hT
          have e1 : a'.eval (.tmp 1) = .pointer (some ⟨R, 0, none⟩) := hk.at 1 (by decide +kernel)
          simp only [execOp, e1]
          rfl
        · -- 7: Op.fieldAddr 33 (Operand.tmp 5) 1
          refine ⟨.inl rfl, .inl ⟨by decide, 0, 1, [], [8, 7], by decide +kernel, by decide +kernel, ?_⟩⟩
          intro s_ a' w' hlo hhi hsl hk hd hT
          have e5 : a'.eval (.tmp 5) = .pointer (some ⟨E, 0, none⟩) := hk.at 5 (by decide +kernel)
          clear hd hk hT
          simp only [execOp, e5]
          go_simp
        · -- 8: Op.load 3 (Operand.tmp 47)
          refine ⟨.inl rfl, .inl ⟨by decide, 0, 1, [], [8], by decide +kernel, by decide +kernel, ?_⟩⟩
          intro s_ a' w' hlo hhi hsl hk hd hT
          have e47 : a'.eval (.tmp 47) = .pointer (some ⟨E, 1, none⟩) := hd 7 47 (by decide +kernel)
          have cc : w'.cell? ⟨E, 1, none⟩ = some (.int .i64 xn) := hT.2.1.cell (j := 1) rfl
          clear hd hk
          simp only [execOp, e47]
          go_simp
        · -- 9: Op.fieldAddr 33 (Operand.tmp 5) 3
          refine ⟨.inl rfl, .inl ⟨by decide, 0, 1, [], [10, 9], by decide +kernel, by decide +kernel, ?_⟩⟩
          intro s_ a' w' hlo hhi hsl hk hd hT
          have e5 : a'.eval (.tmp 5) = .pointer (some ⟨E, 0, none⟩) := hk.at 5 (by decide +kernel)
          clear hd hk hT
          simp only [execOp, e5]
          go_simp
        · -- 10: Op.load 31 (Operand.tmp 49)
          refine ⟨.inl rfl, .inl ⟨by decide, 0, 1, [], [10], by decide +kernel, by decide +kernel, ?_⟩⟩
          intro s_ a' w' hlo hhi hsl hk hd hT
          have e49 : a'.eval (.tmp 49) = .pointer (some ⟨E, 3, none⟩) := hd 9 49 (by decide +kernel)
          have cc : w'.cell? ⟨E, 3, none⟩ = some (.slice ad ln cpa) := hT.2.1.cell (j := 3) rfl
          clear hd hk
          simp only [execOp, e49]
          go_simp
        · -- 11: Op.call ( callee := Callee.value (Operand.func 29), args := 
          refine ⟨.inl rfl, .inr ⟨1, rfl, ?_⟩⟩
          intro a' w' hk hd hT
          have e46 : a'.eval (.tmp 46) = .pointer (some ⟨R, 0, none⟩) := hd 6 46 (by decide +kernel)
          have e48 : a'.eval (.tmp 48) = .int .i64 xn := hd 8 48 (by decide +kernel)
          have e50 : a'.eval (.tmp 50) = .slice ad ln cpa := hd 10 50 (by decide +kernel)
          refine wp_call_at 29 _ _ (run_enter 29 _ _ rfl (by kernel_rfl)) ?_
          simp only [List.map_toArray, List.map_nil, List.map_cons, e46, e48, e50]
          refine (hT.1.vinstall (by omega) HA.out.r HL60.out xn).mono ?_
          rintro e_ w2 ⟨he, k1, k2, k3⟩
          rw [HER.out] at he
          exact ⟨he, hT.next k1 k2 k3⟩
        · -- 12: Op.binOp BinOp.eql 3 (Operand.tmp 45) (Operand.tmp 51) 3
          refine ⟨.inl rfl, .inl ⟨by decide, 2, 2, [11], [], by decide +kernel, by decide +kernel, ?_⟩⟩
          intro s_ a' w' hlo hhi hsl hk hd hT
          have e45 : a'.eval (.tmp 45) = .int .i64 er := hd 5 45 (by decide +kernel)
          have e51 : a'.eval (.tmp 51) = .int .i64 er := hd 11 51 (by decide +kernel)
          clear hd hk hT
          simp only [execOp, e45, e51]
          go_simp
        · -- 13: Op.assign (Operand.tmp 52)
          refine ⟨.inl rfl, .inl ⟨by decide, 2, 2, [11], [], by decide +kernel, by decide +kernel, ?_⟩⟩
          intro s_ a' w' hlo hhi hsl hk hd hT
          have e52 : a'.eval (.tmp 52) = .bool true := hd 12 52 (by decide +kernel)
          simp only [execOp, e52]
          rfl
      · intro a' w9 hsz hdf hk hall hT
        have e40 : a'.eval (.tmp 40) = .pointer (some ⟨D, 0, none⟩) := hall 0 _ 40 rfl rfl
        have e41 : a'.eval (.tmp 41) = .pointer (some ⟨E, 1, none⟩) := hall 1 _ 41 rfl rfl
        have e42 : a'.eval (.tmp 42) = .int .i64 xn := hall 2 _ 42 rfl rfl
        have e43 : a'.eval (.tmp 43) = .pointer (some ⟨E, 3, none⟩) := hall 3 _ 43 rfl rfl
        have e44 : a'.eval (.tmp 44) = .slice ad ln cpa := hall 4 _ 44 rfl rfl
        have e45 : a'.eval (.tmp 45) = .int .i64 er := hall 5 _ 45 rfl rfl
        have e46 : a'.eval (.tmp 46) = .pointer (some ⟨R, 0, none⟩) := hall 6 _ 46 rfl rfl
        have e47 : a'.eval (.tmp 47) = .pointer (some ⟨E, 1, none⟩) := hall 7 _ 47 rfl rfl
        have e48 : a'.eval (.tmp 48) = .int .i64 xn := hall 8 _ 48 rfl rfl
        have e49 : a'.eval (.tmp 49) = .pointer (some ⟨E, 3, none⟩) := hall 9 _ 49 rfl rfl
        have e50 : a'.eval (.tmp 50) = .slice ad ln cpa := hall 10 _ 50 rfl rfl
        have e51 : a'.eval (.tmp 51) = .int .i64 er := hall 11 _ 51 rfl rfl
        have e52 : a'.eval (.tmp 52) = .bool true := hall 12 _ 52 rfl rfl
        have e6 : a'.eval (.tmp 6) = .bool true := hall 13 _ 6 rfl rfl
        have ha := act_puts 128 rfl hsz hdf hk [40, 41, 42, 43, 44, 45, 46, 47, 48, 49, 50, 51, 52, 6] (by decide +kernel)
        simp only [puts, List.foldl_cons, List.foldl_nil, e40, e41, e42, e43, e44, e45, e46, e47, e48, e49, e50, e51, e52, e6] at ha
        simp only [Act.put, List.setIfInBounds_toArray, List.set_cons_succ, List.set_cons_zero] at ha
        clear hall hk hsz hdf e40 e41 e42 e43 e44 e45 e46 e47 e48 e49 e50 e51 e52 e6
        subst ha
        have H9 := hide hT
        clear hT
        go_wp2_with fail
        go_ret
        exact ⟨rfl, H9.out.1.less (fun b hb => .inl hb), H9.out.2.2.1, H9.out.2.2.2⟩
    · by_cases h2 : kd = 2
      · subst h2
        have h' : s' = collP s xn := HS'.out.symm
        subst h'
        obtain ⟨er, HER⟩ : ∃ x : Int, Hid ((if collOk s xn = true then 0 else 2) = x) := ⟨_, rfl⟩
        go_upto_region 7 with fail
        clear c0
        refine wp_region_chain8 Try.mixed (fun i_ => match i_ with | 0 => .pointer (some ⟨D, 0, none⟩) | 1 | 5 => .pointer (some ⟨E, 1, none⟩) | 2 | 6 => .int .i64 xn | 3 | 7 => .int .i64 er | 4 => .pointer (some ⟨R, 0, none⟩) | 8 | 9 => .bool true | _ => undef) (AT w wr D R i s (collP s xn) O E (AC ⟨2, xn, xm, ad, ln, cpa, pl, fr, tt⟩)) [3, 7] [[3]] 128 rfl (by decide +kernel) (by decide +kernel) (by decide) (by decide +kernel) ?_ ?_ ?_
        · exact fun w' hh hg => A1.out.kept hg
        · refine AllFrom.cons ?_ (AllFrom.cons ?_ (AllFrom.cons ?_ (AllFrom.cons ?_ (AllFrom.cons ?_ (AllFrom.cons ?_ (AllFrom.cons ?_ (AllFrom.cons ?_ (AllFrom.cons ?_ (AllFrom.cons ?_ AllFrom.nil)))))))))
          · -- 0: Op.move (Operand.tmp 0)
            refine ⟨.inl rfl, .inl ⟨by decide, 0, 0, [], [0], by decide +kernel, by decide +kernel, ?_⟩⟩
            intro s_ a' w' hlo hhi hsl hk hd hT
            have e0 : a'.eval (.tmp 0) = .pointer (some ⟨D, 0, none⟩) := hk.at 0 (by decide +kernel)
            simp only [execOp, e0]
            rfl
          · -- 1: Op.fieldAddr 33 (Operand.tmp 5) 1
            refine ⟨.inl rfl, .inl ⟨by decide, 0, 0, [], [2, 1], by decide +kernel, by decide +kernel, ?_⟩⟩
            intro s_ a' w' hlo hhi hsl hk hd hT
            have e5 : a'.eval (.tmp 5) = .pointer (some ⟨E, 0, none⟩) := hk.at 5 (by decide +kernel)
            clear hd hk hT
            simp only [execOp, e5]
            go_simp
          · -- 2: Op.load 3 (Operand.tmp 56)
            refine ⟨.inl rfl, .inl ⟨by decide, 0, 0, [], [2], by decide +kernel, by decide +kernel, ?_⟩⟩
            intro s_ a' w' hlo hhi hsl hk hd hT
            have e56 : a'.eval (.tmp 56) = .pointer (some ⟨E, 1, none⟩) := hd 1 56 (by decide +kernel)
            have cc : w'.cell? ⟨E, 1, none⟩ = some (.int .i64 xn) := hT.2.1.cell (j := 1) rfl
            clear hd hk
            simp only [execOp, e56]
            go_simp
          · -- 3: Op.call ( callee := Callee.value (Operand.func 25), args := 
            refine ⟨.inl rfl, .inr ⟨0, rfl, ?_⟩⟩
            intro a' w' hk hd hT
            have e55 : a'.eval (.tmp 55) = .pointer (some ⟨D, 0, none⟩) := hd 0 55 (by decide +kernel)
            have e57 : a'.eval (.tmp 57) = .int .i64 xn := hd 2 57 (by decide +kernel)
            refine wp_call_at 25 _ _ (run_enter 25 _ _ rfl (by kernel_rfl)) ?_
            simp only [List.map_toArray, List.map_nil, List.map_cons, e55, e57]
            refine ((hT.1.mono (Nat.le_succ i)).collect (by omega) xn).mono ?_
            rintro e_ w2 ⟨he, k1, k2, k3⟩
            rw [HER.out] at he
            exact ⟨he, hT.next k1 k2 k3⟩
          · -- 4: Op.move (Operand.tmp 1)
            refine ⟨.inl rfl, .inl ⟨by decide, 0, 1, [], [4], by decide +kernel, by decide +kernel, ?_⟩⟩
            intro s_ a' w' hlo hhi hsl hk hd hT
            have e1 : a'.eval (.tmp 1) = .pointer (some ⟨R, 0, none⟩) := hk.at 1 (by decide +kernel)
            simp only [execOp, e1]
            rfl
          · -- 5: Op.fieldAddr 33 (Operand.tmp 5) 1
            refine ⟨.inl rfl, .inl ⟨by decide, 0, 1, [], [6, 5], by decide +kernel, by decide +kernel, ?_⟩⟩
            intro s_ a' w' hlo hhi hsl hk hd hT
            have e5 : a'.eval (.tmp 5) = .pointer (some ⟨E, 0, none⟩) := hk.at 5 (by decide +kernel)
            clear hd hk hT
            simp only [execOp, e5]
            go_simp
          · -- 6: Op.load 3 (Operand.tmp 60)
            refine ⟨.inl rfl, .inl ⟨by decide, 0, 1, [], [6], by decide +kernel, by decide +kernel, ?_⟩⟩
            intro s_ a' w' hlo hhi hsl hk hd hT
            have e60 : a'.eval (.tmp 60) = .pointer (some ⟨E, 1, none⟩) := hd 5 60 (by decide +kernel)
            have cc : w'.cell? ⟨E, 1, none⟩ = some (.int .i64 xn) := hT.2.1.cell (j := 1) rfl
            clear hd hk
            simp only [execOp, e60]
            go_simp
          · -- 7: Op.call ( callee := Callee.value (Operand.func 30), args := 
            refine ⟨.inl rfl, .inr ⟨1, rfl, ?_⟩⟩
            intro a' w' hk hd hT
            have e59 : a'.eval (.tmp 59) = .pointer (some ⟨R, 0, none⟩) := hd 4 59 (by decide +kernel)
            have e61 : a'.eval (.tmp 61) = .int .i64 xn := hd 6 61 (by decide +kernel)
            refine wp_call_at 30 _ _ (run_enter 30 _ _ rfl (by kernel_rfl)) ?_
            simp only [List.map_toArray, List.map_nil, List.map_cons, e59, e61]
            refine ((hT.1.mono (Nat.le_succ (i + 1))).vcollect (by omega) xn).mono ?_
            rintro e_ w2 ⟨he, k1, k2, k3⟩
            rw [HER.out] at he
            exact ⟨he, hT.next k1 k2 k3⟩
          · -- 8: Op.binOp BinOp.eql 3 (Operand.tmp 58) (Operand.tmp 62) 3
            refine ⟨.inl rfl, .inl ⟨by decide, 2, 2, [7], [], by decide +kernel, by decide +kernel, ?_⟩⟩
            intro s_ a' w' hlo hhi hsl hk hd hT
            have e58 : a'.eval (.tmp 58) = .int .i64 er := hd 3 58 (by decide +kernel)
            have e62 : a'.eval (.tmp 62) = .int .i64 er := hd 7 62 (by decide +kernel)
            clear hd hk hT
            simp only [execOp, e58, e62]
            go_simp
          · -- 9: Op.assign (Operand.tmp 63)
            refine ⟨.inl rfl, .inl ⟨by decide, 2, 2, [7], [], by decide +kernel, by decide +kernel, ?_⟩⟩
            intro s_ a' w' hlo hhi hsl hk hd hT
            have e63 : a'.eval (.tmp 63) = .bool true := hd 8 63 (by decide +kernel)
            simp only [execOp, e63]
            rfl
        · intro a' w9 hsz hdf hk hall hT
          have e55 : a'.eval (.tmp 55) = .pointer (some ⟨D, 0, none⟩) := hall 0 _ 55 rfl rfl
          have e56 : a'.eval (.tmp 56) = .pointer (some ⟨E, 1, none⟩) := hall 1 _ 56 rfl rfl
          have e57 : a'.eval (.tmp 57) = .int .i64 xn := hall 2 _ 57 rfl rfl
          have e58 : a'.eval (.tmp 58) = .int .i64 er := hall 3 _ 58 rfl rfl
          have e59 : a'.eval (.tmp 59) = .pointer (some ⟨R, 0, none⟩) := hall 4 _ 59 rfl rfl
          have e60 : a'.eval (.tmp 60) = .pointer (some ⟨E, 1, none⟩) := hall 5 _ 60 rfl rfl
          have e61 : a'.eval (.tmp 61) = .int .i64 xn := hall 6 _ 61 rfl rfl
          have e62 : a'.eval (.tmp 62) = .int .i64 er := hall 7 _ 62 rfl rfl
          have e63 : a'.eval (.tmp 63) = .bool true := hall 8 _ 63 rfl rfl
          have e6 : a'.eval (.tmp 6) = .bool true := hall 9 _ 6 rfl rfl
          have ha := act_puts 128 rfl hsz hdf hk [55, 56, 57, 58, 59, 60, 61, 62, 63, 6] (by decide +kernel)
          simp only [puts, List.foldl_cons, List.foldl_nil, e55, e56, e57, e58, e59, e60, e61, e62, e63, e6] at ha
          simp only [Act.put, List.setIfInBounds_toArray, List.set_cons_succ, List.set_cons_zero] at ha
          clear hall hk hsz hdf e55 e56 e57 e58 e59 e60 e61 e62 e63 e6
          subst ha
          have H9 := hide hT
          clear hT
          go_wp2_with fail
          go_ret
          exact ⟨rfl, H9.out.1.less (fun b hb => .inl hb), H9.out.2.2.1, H9.out.2.2.2⟩
      · have h' : s' = s := by rw [← HS'.out]; unfold actS; rw [if_neg h0, if_neg h1, if_neg h2]
        subst h'
        have e1 : w1.cell? ⟨E, 1, none⟩ = some (.int .i64 xn) := B1.out.cell (j := 1) rfl
        have e2 : w1.cell? ⟨E, 2, none⟩ = some (.int .i64 xm) := B1.out.cell (j := 2) rfl
        have e4 : w1.cell? ⟨E, 4, none⟩ = some (.string fr) := B1.out.cell (j := 4) rfl
        have e5 : w1.cell? ⟨E, 5, none⟩ = some (.string tt) := B1.out.cell (j := 5) rfl
        have q0 : (kd == 0) = false := by simp [h0]
        have q1 : (kd == 1) = false := by simp [h1]
        have q2 : (kd == 2) = false := by simp [h2]
        obtain ⟨vr, rs, hrs, hrl⟩ := H1.out.rs
        have HR := hide hrs
        clear hrs
        by_cases h3 : kd = 3
        · subst h3
          obtain ⟨r1, r2, HSC⟩ : ∃ x y, Hid (scanS s' (rs.map (·.1)) fr tt xn xm = (x, y)) := ⟨_, _, rfl⟩
          have CS := hide (H1.out.ls.scan (by omega) HR.out.inv fr tt xn xm)
          rw [HSC.out] at CS
          go_wp2_with fail
          refine CS.out.mono ?_
          rintro e w2 ⟨v2, rfl, ho2, hb2⟩
          have O2 := hide ho2.rd
          have G2 := hide hb2
          have B2 := hide (B1.out.kept hb2)
          have CV := hide (vScan_any (HR.out.kept hb2) (by omega) fr tt xn xm)
          rw [HSC.out] at CV
          clear ho2 hb2 CS e1 e2 e4 e5 c0
          have e1 : w2.cell? ⟨E, 1, none⟩ = some (.int .i64 xn) := B2.out.cell (j := 1) rfl
          have e2 : w2.cell? ⟨E, 2, none⟩ = some (.int .i64 xm) := B2.out.cell (j := 2) rfl
          have e4 : w2.cell? ⟨E, 4, none⟩ = some (.string fr) := B2.out.cell (j := 4) rfl
          have e5 : w2.cell? ⟨E, 5, none⟩ = some (.string tt) := B2.out.cell (j := 5) rfl
          go_wp2_with fail
          refine CV.out.mono ?_
          rintro e w3 ⟨v3, rfl, hr3, hb3⟩
          have G3 := hide (G2.out.trans (hb3.mono G2.out.size))
          have CE := hide (vsame_any (O2.out.kept hb3) hr3)
          rw [show decide (r1 = r1) = true by simp] at CE
          clear hr3 hb3 CV e1 e2 e4 e5
          go_wp2_with fail
          refine CE.out.mono ?_
          rintro e w4 ⟨rfl, hb4⟩
          have G4 := hide (G3.out.trans (hb4.mono G3.out.size))
          clear hb4 CE
          go_wp2_with fail
          go_ret
          exact ⟨rfl, ((H1.out.kept G4.out).less (fun b hb => .inl hb)).mono (by omega), (A1.out.kept G4.out).2.2.1, (A1.out.kept G4.out).2.2.2⟩
        · have q3 : (kd == 3) = false := by simp [h3]
          by_cases h4 : kd = 4
          · subst h4
            have hfs := HA.out.f
            obtain ⟨r1, r2, HSC⟩ : ∃ x y, Hid (getS s' fr xn = (x, y)) := ⟨_, _, rfl⟩
            have CS := hide (H1.out.ls.get (by omega) fr (by simp only [maxLen]; simp only at hfs; omega) xn)
            rw [HSC.out] at CS
            go_wp2_with fail
            refine CS.out.mono ?_
            rintro e w2 ⟨rfl, hb2⟩
            have G2 := hide hb2
            have B2 := hide (B1.out.kept hb2)
            have CV := hide (vGet_any (HR.out.kept hb2) fr xn)
            rw [HSC.out] at CV
            clear hb2 CS e1 e2 e4 e5 c0
            have e1 : w2.cell? ⟨E, 1, none⟩ = some (.int .i64 xn) := B2.out.cell (j := 1) rfl
            have e4 : w2.cell? ⟨E, 4, none⟩ = some (.string fr) := B2.out.cell (j := 4) rfl
            go_wp2_with fail
            refine CV.out.mono ?_
            rintro e w3 ⟨rfl, hb3⟩
            have G3 := hide (G2.out.trans (hb3.mono G2.out.size))
            clear hb3 CV e1 e4
            go_wp2_with fail
            go_ret
            exact ⟨rfl, ((H1.out.kept G3.out).less (fun b hb => .inl hb)).mono (by omega), (A1.out.kept G3.out).2.2.1, (A1.out.kept G3.out).2.2.2⟩
          · have q4 : (kd == 4) = false := by simp [h4]
            go_wp2_with fail
            go_ret
            exact ⟨rfl, (H1.out.less (fun b hb => .inl hb)).mono (by omega), A1.out.2.2.1, A1.out.2.2.2⟩
#print axioms act_any
end Go.Proofs.Ytgaoionnfkbhaaa
