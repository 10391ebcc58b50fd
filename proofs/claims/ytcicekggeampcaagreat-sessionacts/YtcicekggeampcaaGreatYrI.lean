/-
  The law's act: what it does to both stores and both sessions.
-/
import Derived.Test.YtcicekggeampcaaGreatYrH
import Derived.Test.YtcicekggeampcaaGreatSeY
import Derived.Test.YtcicekggeampcaaGreatRegion8
import Derived.Test.YtcicekggeampcaaGreatGRc
namespace Go.Proofs.YtcicekggeampcaaGreat
open Go.RowKit
/-- Between the calls: E holds the act. -/
def AT (w0 : World) (D R X Y : Nat) (id : Int) (E : Nat) (cs : List Value) (i : Nat → Nat) (S T : Nat → SP) (U V : Nat → Option Tx) (k : Nat) (w' : World) : Prop :=
  Two (fun b => b = E) w0 w' D R (i k) (S k) (T k) X Y id (U k) (V k) ∧ Blk w' E 37 cs
set_option maxRecDepth 100000 in
set_option maxHeartbeats 8000000 in
theorem act15_any {w0 w : World} {D R i : Nat} {s : SP} {X Y : Nat} {id : Int} {z : Option Tx} (h : Two (fun _ => False) w0 w D R i s s X Y id z z) (hi : i ≤ 900) {a : Ac} (ha : AcOk w0 a) (hL : a.l.length ≤ 60) (hk : a.key.size ≤ 800) (hv : a.val.size ≤ 800) :
    Calls Tryz.prog 9 #[PT X, PT D, PT Y, PT R, .agg (AC a).toArray] w fun e w' => e = .returned (.bool true) ∧ ∃ s' z', Two (fun _ => False) w0 w' D R (i + 2) s' s' X Y id z' z' := by
  have HH := hide h
  have HA := hide ha
  have HL60 := hide hL
  have hbn := h.bnd
  obtain ⟨kd, xn, ky, vl, st, pl, ad, cpa⟩ := a
  have HKM : Hid (ky.size ≤ maxLen) := (show ky.size ≤ maxLen by have : ky.size ≤ 800 := hk; unfold maxLen; omega)
  simp only at HL60
  clear h ha hL hk hv
  have L1 : Hid (Below w.heap.size w (w.alloc (.cells (AC ⟨kd, xn, ky, vl, st, pl, ad, cpa⟩).toArray 37 (0, 0)))) := (Below.refl _ _).alloc (Nat.le_refl _) _
  have B1 := hide (Blk.new w 37 (AC ⟨kd, xn, ky, vl, st, pl, ad, cpa⟩))
  go_enter Tryz.func9, Tryz.ntmps9
  go_upto_region 1 with fail
  obtain ⟨E, HE⟩ : ∃ E, Hid (w.heap.size = E) := ⟨_, rfl⟩
  obtain ⟨w1, hw1⟩ : ∃ x, x = w.alloc (.cells (AC ⟨kd, xn, ky, vl, st, pl, ad, cpa⟩).toArray 37 (0, 0)) := ⟨_, rfl⟩
  rw [← hw1] at L1 B1 ⊢
  rw [HE.out] at B1 ⊢
  clear hw1
  have A1 := hide (HH.out.own L1.out (Nat.le_of_eq HE.out) B1.out.lt)
  have c0 : w1.cell? ⟨E, 0, none⟩ = some (.int .i64 kd) := B1.out.cell (j := 0) rfl
  by_cases h0 : kd = 0
  · subst h0
    obtain ⟨z1, HZ1⟩ : ∃ x, Hid ((beginO s z st).2 = x) := ⟨_, rfl⟩
    obtain ⟨er, HER⟩ : ∃ x : Int, Hid ((beginO s z st).1 = x) := ⟨_, rfl⟩
    go_upto_region 3 with fail
    clear c0
    refine wp_region_chain8 Tryz.mixed (fun i_ => match i_ with | 0 => PT X | 1 => PT D | 2 | 7 => .pointer (some ⟨E, 4, none⟩) | 3 | 8 => .bool st | 4 | 9 => .int .i64 er | 5 => PT Y | 6 => PT R | 10 | 11 => .bool true | _ => undef) (AT w0 D R X Y id E (AC ⟨0, xn, ky, vl, st, pl, ad, cpa⟩) (fun | 0 => i | 1 => i | _ => i) (fun | 0 => s | 1 => s | _ => s) (fun | 0 => s | 1 => s | _ => s) (fun | 0 => z | 1 => z1 | _ => z1) (fun | 0 => z | 1 => z | _ => z1)) [4, 9] [[4]] 174 rfl (by decide +kernel) (by decide +kernel) (by decide) (by decide +kernel) ?_ ?_ ?_
    · exact fun w' hh hg => ⟨A1.out.kept hg, B1.out.kept hg⟩
    · refine AllFrom.cons ?_ (AllFrom.cons ?_ (AllFrom.cons ?_ (AllFrom.cons ?_ (AllFrom.cons ?_ (AllFrom.cons ?_ (AllFrom.cons ?_ (AllFrom.cons ?_ (AllFrom.cons ?_ (AllFrom.cons ?_ (AllFrom.cons ?_ (AllFrom.cons ?_ AllFrom.nil)))))))))))
      · -- 0: Op.move (Operand.tmp 0)
        refine ⟨.inl rfl, .inl ⟨by decide, 0, 0, [], [0], by decide +kernel, by decide +kernel, ?_⟩⟩
        intro s_ a' w' hlo hhi hsl hk hd hT
        have e0 : a'.eval (.tmp 0) = PT X := hk.at 0 (by decide +kernel)
        simp only [execOp, e0]
        rfl
      · -- 1: Op.move (Operand.tmp 1)
        refine ⟨.inl rfl, .inl ⟨by decide, 0, 0, [], [1], by decide +kernel, by decide +kernel, ?_⟩⟩
        intro s_ a' w' hlo hhi hsl hk hd hT
        have e1 : a'.eval (.tmp 1) = PT D := hk.at 1 (by decide +kernel)
        simp only [execOp, e1]
        rfl
      · -- 2: Op.fieldAddr 37 (Operand.tmp 9) 4
        refine ⟨.inl rfl, .inl ⟨by decide, 0, 0, [], [3, 2], by decide +kernel, by decide +kernel, ?_⟩⟩
        intro s_ a' w' hlo hhi hsl hk hd hT
        have e9 : a'.eval (.tmp 9) = .pointer (some ⟨E, 0, none⟩) := hk.at 9 (by decide +kernel)
        clear hd hk hT
        simp only [execOp, e9]
        go_simp
      · -- 3: Op.load 4 (Operand.tmp 26)
        refine ⟨.inl rfl, .inl ⟨by decide, 0, 0, [], [3], by decide +kernel, by decide +kernel, ?_⟩⟩
        intro s_ a' w' hlo hhi hsl hk hd hT
        have e26 : a'.eval (.tmp 26) = .pointer (some ⟨E, 4, none⟩) := hd 2 26 (by decide +kernel)
        have cc : w'.cell? ⟨E, 4, none⟩ = some (.bool st) := hT.2.cell (j := 4) rfl
        clear hd hk
        simp only [execOp, e26]
        go_simp
      · -- 4: Op.call ( callee := Callee.value (Operand.func 16), args := 
        refine ⟨.inl rfl, .inr ⟨0, rfl, ?_⟩⟩
        intro a' w' hk hd hT
        have e24 : a'.eval (.tmp 24) = PT X := hd 0 24 (by decide +kernel)
        have e25 : a'.eval (.tmp 25) = PT D := hd 1 25 (by decide +kernel)
        have e27 : a'.eval (.tmp 27) = .bool st := hd 3 27 (by decide +kernel)
        refine wp_call_at 16 _ _ (run_enter 16 _ _ rfl (by kernel_rfl)) ?_
        simp only [List.map_toArray, List.map_nil, List.map_cons, e24, e25, e27]
        have hT2 := hT.2
        have hT1 : Two (fun b => b = E) w0 w' D R (i) (s) (s) X Y id (z) (z) := hT.1
        clear hT
        refine (hT1.zbegin (by omega) st).mono ?_
        rintro e_ w2 ⟨he, k1, k2⟩
        rw [HZ1.out] at k1
        rw [HER.out] at he
        exact ⟨he, k1, hT2.same k2 rfl⟩
      · -- 5: Op.move (Operand.tmp 2)
        refine ⟨.inl rfl, .inl ⟨by decide, 0, 1, [], [5], by decide +kernel, by decide +kernel, ?_⟩⟩
        intro s_ a' w' hlo hhi hsl hk hd hT
        have e2 : a'.eval (.tmp 2) = PT Y := hk.at 2 (by decide +kernel)
        simp only [execOp, e2]
        rfl
      · -- 6: Op.move (Operand.tmp 3)
        refine ⟨.inl rfl, .inl ⟨by decide, 0, 1, [], [6], by decide +kernel, by decide +kernel, ?_⟩⟩
        intro s_ a' w' hlo hhi hsl hk hd hT
        have e3 : a'.eval (.tmp 3) = PT R := hk.at 3 (by decide +kernel)
        simp only [execOp, e3]
        rfl
      · -- 7: Op.fieldAddr 37 (Operand.tmp 9) 4
        refine ⟨.inl rfl, .inl ⟨by decide, 0, 1, [], [8, 7], by decide +kernel, by decide +kernel, ?_⟩⟩
        intro s_ a' w' hlo hhi hsl hk hd hT
        have e9 : a'.eval (.tmp 9) = .pointer (some ⟨E, 0, none⟩) := hk.at 9 (by decide +kernel)
        clear hd hk hT
        simp only [execOp, e9]
        go_simp
      · -- 8: Op.load 4 (Operand.tmp 31)
        refine ⟨.inl rfl, .inl ⟨by decide, 0, 1, [], [8], by decide +kernel, by decide +kernel, ?_⟩⟩
        intro s_ a' w' hlo hhi hsl hk hd hT
        have e31 : a'.eval (.tmp 31) = .pointer (some ⟨E, 4, none⟩) := hd 7 31 (by decide +kernel)
        have cc : w'.cell? ⟨E, 4, none⟩ = some (.bool st) := hT.2.cell (j := 4) rfl
        clear hd hk
        simp only [execOp, e31]
        go_simp
      · -- 9: Op.call ( callee := Callee.value (Operand.func 19), args := 
        refine ⟨.inl rfl, .inr ⟨1, rfl, ?_⟩⟩
        intro a' w' hk hd hT
        have e29 : a'.eval (.tmp 29) = PT Y := hd 5 29 (by decide +kernel)
        have e30 : a'.eval (.tmp 30) = PT R := hd 6 30 (by decide +kernel)
        have e32 : a'.eval (.tmp 32) = .bool st := hd 8 32 (by decide +kernel)
        refine wp_call_at 19 _ _ (run_enter 19 _ _ rfl (by kernel_rfl)) ?_
        simp only [List.map_toArray, List.map_nil, List.map_cons, e29, e30, e32]
        have hT2 := hT.2
        have hT1 : Two (fun b => b = E) w0 w' D R (i) (s) (s) X Y id (z1) (z) := hT.1
        clear hT
        refine ((HZ1.out ▸ hT1 : Two (fun b => b = E) w0 w' D R i s s X Y id (beginO s z st).2 z).ybegin).mono ?_
        rintro e_ w2 ⟨he, k1, k2⟩
        rw [HZ1.out] at k1
        rw [HER.out] at he
        exact ⟨he, k1, hT2.same k2 rfl⟩
      · -- 10: Op.binOp BinOp.eql 3 (Operand.tmp 28) (Operand.tmp 33) 3
        refine ⟨.inl rfl, .inl ⟨by decide, 2, 2, [9], [], by decide +kernel, by decide +kernel, ?_⟩⟩
        intro s_ a' w' hlo hhi hsl hk hd hT
        have e28 : a'.eval (.tmp 28) = .int .i64 er := hd 4 28 (by decide +kernel)
        have e33 : a'.eval (.tmp 33) = .int .i64 er := hd 9 33 (by decide +kernel)
        clear hd hk hT
        simp only [execOp, e28, e33]
        go_simp
      · -- 11: Op.assign (Operand.tmp 34)
        refine ⟨.inl rfl, .inl ⟨by decide, 2, 2, [9], [], by decide +kernel, by decide +kernel, ?_⟩⟩
        intro s_ a' w' hlo hhi hsl hk hd hT
        have e34 : a'.eval (.tmp 34) = .bool true := hd 10 34 (by decide +kernel)
        simp only [execOp, e34]
        rfl
    · intro a' w9 hsz hdf hk hall hT
      have e24 : a'.eval (.tmp 24) = PT X := hall 0 _ 24 rfl rfl
      have e25 : a'.eval (.tmp 25) = PT D := hall 1 _ 25 rfl rfl
      have e26 : a'.eval (.tmp 26) = .pointer (some ⟨E, 4, none⟩) := hall 2 _ 26 rfl rfl
      have e27 : a'.eval (.tmp 27) = .bool st := hall 3 _ 27 rfl rfl
      have e28 : a'.eval (.tmp 28) = .int .i64 er := hall 4 _ 28 rfl rfl
      have e29 : a'.eval (.tmp 29) = PT Y := hall 5 _ 29 rfl rfl
      have e30 : a'.eval (.tmp 30) = PT R := hall 6 _ 30 rfl rfl
      have e31 : a'.eval (.tmp 31) = .pointer (some ⟨E, 4, none⟩) := hall 7 _ 31 rfl rfl
      have e32 : a'.eval (.tmp 32) = .bool st := hall 8 _ 32 rfl rfl
      have e33 : a'.eval (.tmp 33) = .int .i64 er := hall 9 _ 33 rfl rfl
      have e34 : a'.eval (.tmp 34) = .bool true := hall 10 _ 34 rfl rfl
      have e10 : a'.eval (.tmp 10) = .bool true := hall 11 _ 10 rfl rfl
      have ha := act_puts 174 rfl hsz hdf hk [24, 25, 26, 27, 28, 29, 30, 31, 32, 33, 34, 10] (by decide +kernel)
      simp only [puts, List.foldl_cons, List.foldl_nil, e24, e25, e26, e27, e28, e29, e30, e31, e32, e33, e34, e10] at ha
      simp only [Act.put, List.setIfInBounds_toArray, List.set_cons_succ, List.set_cons_zero] at ha
      clear hall hk hsz hdf e24 e25 e26 e27 e28 e29 e30 e31 e32 e33 e34 e10
      subst ha
      have H9 := hide hT
      clear hT
      have H8 : Hid (Two (fun b => b = E) w0 w9 D R (i) (s) (s) X Y id (z1) (z1)) := (show _ from H9.out.1)
      clear H9
      go_wp2_with fail
      go_ret
      exact ⟨rfl, _, _, (H8.out.less (fun _ hb => hb.elim)).mono (by omega)⟩
  · have q0 : (kd == 0) = false := by simp [h0]
    by_cases h1 : kd = 1
    · subst h1
      have A1' : Hid (∃ z', Two (fun b => b = E) w0 w1 D R i s s X Y id z' z') := ⟨z, A1.out⟩
      go_upto_region 6 with fail
      clear c0
      go_wp2_with fail
      go_loopg [11] 72 (fun g y wr => ∃ n : Nat, n ≤ 70 ∧ g + n = 72 ∧ y = .int .i64 (n : Int) ∧ Hid (∃ z', Two (fun b => b = E) w0 wr D R i s s X Y id z' z') ∧ Hid (Blk wr E 37 (AC ⟨1, xn, ky, vl, st, pl, ad, cpa⟩)))
      case atStart => exact ⟨0, by omega, by omega, rfl, A1', B1⟩
      case round =>
        obtain ⟨n, hn, hg, rfl, HT, BR⟩ := hrel
        clear A1' A1 B1 HH
        have c0 : wr.cell? ⟨E, 0, none⟩ = some (.int .i64 1) := BR.out.cell (j := 0) rfl
        have c1 : wr.cell? ⟨E, 1, none⟩ = some (.int .i64 xn) := BR.out.cell (j := 1) rfl
        have c2 : wr.cell? ⟨E, 2, none⟩ = some (.string ky) := BR.out.cell (j := 2) rfl
        obtain ⟨zr_, hzr⟩ := HT.out
        have T1 := hide hzr
        clear hzr HT
        by_cases hn0 : n < 1
        · have p1 : decide ((n : Int) < 1) = true := by simp; omega
          have CG := hide (T1.out.zget (by omega) ky HKM.out)
          obtain ⟨⟨⟨r1, er⟩, z1⟩, HG⟩ : ∃ x, Hid (getO s zr_ ky = x) := ⟨_, rfl⟩
          rw [HG.out] at CG
          simp only at CG
          go_wp2_with fail
          refine CG.out.mono ?_
          rintro e w2 ⟨rfl, ht2, hsm⟩
          have ht2' : Two (fun b => b = E) w0 w2 D R i s s X Y id (getO s zr_ ky).2 zr_ := by rw [HG.out]; exact ht2
          have CV := hide ht2'.yget
          rw [HG.out] at CV
          simp only at CV
          have B2 := hide (BR.out.same hsm rfl)
          have c2 : w2.cell? ⟨E, 2, none⟩ = some (.string ky) := B2.out.cell (j := 2) rfl
          clear ht2 ht2' hsm CG c0 c1
          go_wp2_with fail
          refine CV.out.mono ?_
          rintro e w3 ⟨rfl, ht3, hsm⟩
          have T3 : Hid (∃ z', Two (fun b => b = E) w0 w3 D R i s s X Y id z' z') := ⟨z1, ht3⟩
          have B3 := hide (B2.out.same hsm rfl)
          clear ht3 hsm CV c2
          have hwn : IntKind.i64.wrap ((n : Int) + 1) = (n : Int) + 1 := wr64 (by omega) (by omega)
          go_wp2_with fail
          go_roundg (71 - n)
          case measure => omega
          case rel => exact ⟨n + 1, by omega, by omega, by go_num, T3, B3⟩
        · have p1 : decide ((n : Int) < 1) = false := by simp; omega
          go_wp2_with fail
          go_ret
          exact ⟨rfl, _, _, (T1.out.less (fun _ hb => hb.elim)).mono (by omega)⟩
    · have q1 : (kd == 1) = false := by simp [h1]
      by_cases h8 : kd = 8
      · subst h8
        have A1' : Hid (∃ z', Two (fun b => b = E) w0 w1 D R i s s X Y id z' z') := ⟨z, A1.out⟩
        go_upto_region 6 with fail
        clear c0
        go_wp2_with fail
        go_loopg [11] 72 (fun g y wr => ∃ n : Nat, n ≤ 70 ∧ g + n = 72 ∧ y = .int .i64 (n : Int) ∧ Hid (∃ z', Two (fun b => b = E) w0 wr D R i s s X Y id z' z') ∧ Hid (Blk wr E 37 (AC ⟨8, xn, ky, vl, st, pl, ad, cpa⟩)))
        case atStart => exact ⟨0, by omega, by omega, rfl, A1', B1⟩
        case round =>
          obtain ⟨n, hn, hg, rfl, HT, BR⟩ := hrel
          clear A1' A1 B1 HH
          have c0 : wr.cell? ⟨E, 0, none⟩ = some (.int .i64 8) := BR.out.cell (j := 0) rfl
          have c1 : wr.cell? ⟨E, 1, none⟩ = some (.int .i64 xn) := BR.out.cell (j := 1) rfl
          have c2 : wr.cell? ⟨E, 2, none⟩ = some (.string ky) := BR.out.cell (j := 2) rfl
          obtain ⟨zr_, hzr⟩ := HT.out
          have T1 := hide hzr
          clear hzr HT
          by_cases hn0 : n < 1
          · have p1 : decide ((n : Int) < 1) = true := by simp; omega
            have CG := hide (T1.out.zget (by omega) ky HKM.out)
            obtain ⟨⟨⟨r1, er⟩, z1⟩, HG⟩ : ∃ x, Hid (getO s zr_ ky = x) := ⟨_, rfl⟩
            rw [HG.out] at CG
            simp only at CG
            go_wp2_with fail
            refine CG.out.mono ?_
            rintro e w2 ⟨rfl, ht2, hsm⟩
            have ht2' : Two (fun b => b = E) w0 w2 D R i s s X Y id (getO s zr_ ky).2 zr_ := by rw [HG.out]; exact ht2
            have CV := hide ht2'.yget
            rw [HG.out] at CV
            simp only at CV
            have B2 := hide (BR.out.same hsm rfl)
            have c2 : w2.cell? ⟨E, 2, none⟩ = some (.string ky) := B2.out.cell (j := 2) rfl
            clear ht2 ht2' hsm CG c0 c1
            go_wp2_with fail
            refine CV.out.mono ?_
            rintro e w3 ⟨rfl, ht3, hsm⟩
            have T3 : Hid (∃ z', Two (fun b => b = E) w0 w3 D R i s s X Y id z' z') := ⟨z1, ht3⟩
            have B3 := hide (B2.out.same hsm rfl)
            clear ht3 hsm CV c2
            have hwn : IntKind.i64.wrap ((n : Int) + 1) = (n : Int) + 1 := wr64 (by omega) (by omega)
            go_wp2_with fail
            go_roundg (71 - n)
            case measure => omega
            case rel => exact ⟨n + 1, by omega, by omega, by go_num, T3, B3⟩
          · have p1 : decide ((n : Int) < 1) = false := by simp; omega
            by_cases hnx : (n : Int) < xn
            · have p2 : decide ((n : Int) < xn) = true := by simp; omega
              by_cases hn7 : n < 70
              · have p3 : decide ((n : Int) < 70) = true := by simp; omega
                have CG := hide (T1.out.zget (by omega) ky HKM.out)
                obtain ⟨⟨⟨r1, er⟩, z1⟩, HG⟩ : ∃ x, Hid (getO s zr_ ky = x) := ⟨_, rfl⟩
                rw [HG.out] at CG
                simp only at CG
                go_wp2_with fail
                refine CG.out.mono ?_
                rintro e w2 ⟨rfl, ht2, hsm⟩
                have ht2' : Two (fun b => b = E) w0 w2 D R i s s X Y id (getO s zr_ ky).2 zr_ := by rw [HG.out]; exact ht2
                have CV := hide ht2'.yget
                rw [HG.out] at CV
                simp only at CV
                have B2 := hide (BR.out.same hsm rfl)
                have c2 : w2.cell? ⟨E, 2, none⟩ = some (.string ky) := B2.out.cell (j := 2) rfl
                clear ht2 ht2' hsm CG c0 c1
                go_wp2_with fail
                refine CV.out.mono ?_
                rintro e w3 ⟨rfl, ht3, hsm⟩
                have T3 : Hid (∃ z', Two (fun b => b = E) w0 w3 D R i s s X Y id z' z') := ⟨z1, ht3⟩
                have B3 := hide (B2.out.same hsm rfl)
                clear ht3 hsm CV c2
                have hwn : IntKind.i64.wrap ((n : Int) + 1) = (n : Int) + 1 := wr64 (by omega) (by omega)
                go_wp2_with fail
                go_roundg (71 - n)
                case measure => omega
                case rel => exact ⟨n + 1, by omega, by omega, by go_num, T3, B3⟩
              · have p3 : decide ((n : Int) < 70) = false := by simp; omega
                go_wp2_with fail
                go_ret
                exact ⟨rfl, _, _, (T1.out.less (fun _ hb => hb.elim)).mono (by omega)⟩
            · have p2 : decide ((n : Int) < xn) = false := by simp; omega
              go_wp2_with fail
              go_ret
              exact ⟨rfl, _, _, (T1.out.less (fun _ hb => hb.elim)).mono (by omega)⟩
      have q8 : (kd == 8) = false := by simp [h8]
      by_cases h2 : kd = 2
      · subst h2
        obtain ⟨z1, HZ1⟩ : ∃ x, Hid ((putO z (ky, vl, false)).2 = x) := ⟨_, rfl⟩
        obtain ⟨er, HER⟩ : ∃ x : Int, Hid ((putO z (ky, vl, false)).1 = x) := ⟨_, rfl⟩
        go_upto_region 14 with fail
        clear c0
        refine wp_region_chain8 Tryz.mixed (fun i_ => match i_ with | 0 => PT X | 1 | 7 => .pointer (some ⟨E, 2, none⟩) | 2 | 8 => .string ky | 3 | 9 => .pointer (some ⟨E, 3, none⟩) | 4 | 10 => .string vl | 5 | 11 => .int .i64 er | 6 => PT Y | 12 | 13 => .bool true | _ => undef) (AT w0 D R X Y id E (AC ⟨2, xn, ky, vl, st, pl, ad, cpa⟩) (fun | 0 => i | 1 => i | _ => i) (fun | 0 => s | 1 => s | _ => s) (fun | 0 => s | 1 => s | _ => s) (fun | 0 => z | 1 => z1 | _ => z1) (fun | 0 => z | 1 => z | _ => z1)) [5, 11] [[5]] 174 rfl (by decide +kernel) (by decide +kernel) (by decide) (by decide +kernel) ?_ ?_ ?_
        · exact fun w' hh hg => ⟨A1.out.kept hg, B1.out.kept hg⟩
        · refine AllFrom.cons ?_ (AllFrom.cons ?_ (AllFrom.cons ?_ (AllFrom.cons ?_ (AllFrom.cons ?_ (AllFrom.cons ?_ (AllFrom.cons ?_ (AllFrom.cons ?_ (AllFrom.cons ?_ (AllFrom.cons ?_ (AllFrom.cons ?_ (AllFrom.cons ?_ (AllFrom.cons ?_ (AllFrom.cons ?_ AllFrom.nil)))))))))))))
          · -- 0: Op.move (Operand.tmp 0)
            refine ⟨.inl rfl, .inl ⟨by decide, 0, 0, [], [0], by decide +kernel, by decide +kernel, ?_⟩⟩
            intro s_ a' w' hlo hhi hsl hk hd hT
            have e0 : a'.eval (.tmp 0) = PT X := hk.at 0 (by decide +kernel)
            simp only [execOp, e0]
            rfl
          · -- 1: Op.fieldAddr 37 (Operand.tmp 9) 2
            refine ⟨.inl rfl, .inl ⟨by decide, 0, 0, [], [2, 1], by decide +kernel, by decide +kernel, ?_⟩⟩
            intro s_ a' w' hlo hhi hsl hk hd hT
            have e9 : a'.eval (.tmp 9) = .pointer (some ⟨E, 0, none⟩) := hk.at 9 (by decide +kernel)
            clear hd hk hT
            simp only [execOp, e9]
            go_simp
          · -- 2: Op.load 9 (Operand.tmp 84)
            refine ⟨.inl rfl, .inl ⟨by decide, 0, 0, [], [2], by decide +kernel, by decide +kernel, ?_⟩⟩
            intro s_ a' w' hlo hhi hsl hk hd hT
            have e84 : a'.eval (.tmp 84) = .pointer (some ⟨E, 2, none⟩) := hd 1 84 (by decide +kernel)
            have cc : w'.cell? ⟨E, 2, none⟩ = some (.string ky) := hT.2.cell (j := 2) rfl
            clear hd hk
            simp only [execOp, e84]
            go_simp
          · -- 3: Op.fieldAddr 37 (Operand.tmp 9) 3
            refine ⟨.inl rfl, .inl ⟨by decide, 0, 0, [], [4, 3], by decide +kernel, by decide +kernel, ?_⟩⟩
            intro s_ a' w' hlo hhi hsl hk hd hT
            have e9 : a'.eval (.tmp 9) = .pointer (some ⟨E, 0, none⟩) := hk.at 9 (by decide +kernel)
            clear hd hk hT
            simp only [execOp, e9]
            go_simp
          · -- 4: Op.load 9 (Operand.tmp 86)
            refine ⟨.inl rfl, .inl ⟨by decide, 0, 0, [], [4], by decide +kernel, by decide +kernel, ?_⟩⟩
            intro s_ a' w' hlo hhi hsl hk hd hT
            have e86 : a'.eval (.tmp 86) = .pointer (some ⟨E, 3, none⟩) := hd 3 86 (by decide +kernel)
            have cc : w'.cell? ⟨E, 3, none⟩ = some (.string vl) := hT.2.cell (j := 3) rfl
            clear hd hk
            simp only [execOp, e86]
            go_simp
          · -- 5: Op.call ( callee := Callee.value (Operand.func 17), args := 
            refine ⟨.inl rfl, .inr ⟨0, rfl, ?_⟩⟩
            intro a' w' hk hd hT
            have e83 : a'.eval (.tmp 83) = PT X := hd 0 83 (by decide +kernel)
            have e85 : a'.eval (.tmp 85) = .string ky := hd 2 85 (by decide +kernel)
            have e87 : a'.eval (.tmp 87) = .string vl := hd 4 87 (by decide +kernel)
            refine wp_call_at 17 _ _ (run_enter 17 _ _ rfl (by kernel_rfl)) ?_
            simp only [List.map_toArray, List.map_nil, List.map_cons, e83, e85, e87]
            have hT2 := hT.2
            have hT1 : Two (fun b => b = E) w0 w' D R (i) (s) (s) X Y id (z) (z) := hT.1
            clear hT
            refine (hT1.zput ky vl HKM.out).mono ?_
            rintro e_ w2 ⟨he, k1, k2⟩
            rw [HZ1.out] at k1
            rw [HER.out] at he
            exact ⟨he, k1, hT2.same k2 rfl⟩
          · -- 6: Op.move (Operand.tmp 2)
            refine ⟨.inl rfl, .inl ⟨by decide, 0, 1, [], [6], by decide +kernel, by decide +kernel, ?_⟩⟩
            intro s_ a' w' hlo hhi hsl hk hd hT
            have e2 : a'.eval (.tmp 2) = PT Y := hk.at 2 (by decide +kernel)
            simp only [execOp, e2]
            rfl
          · -- 7: Op.fieldAddr 37 (Operand.tmp 9) 2
            refine ⟨.inl rfl, .inl ⟨by decide, 0, 1, [], [8, 7], by decide +kernel, by decide +kernel, ?_⟩⟩
            intro s_ a' w' hlo hhi hsl hk hd hT
            have e9 : a'.eval (.tmp 9) = .pointer (some ⟨E, 0, none⟩) := hk.at 9 (by decide +kernel)
            clear hd hk hT
            simp only [execOp, e9]
            go_simp
          · -- 8: Op.load 9 (Operand.tmp 90)
            refine ⟨.inl rfl, .inl ⟨by decide, 0, 1, [], [8], by decide +kernel, by decide +kernel, ?_⟩⟩
            intro s_ a' w' hlo hhi hsl hk hd hT
            have e90 : a'.eval (.tmp 90) = .pointer (some ⟨E, 2, none⟩) := hd 7 90 (by decide +kernel)
            have cc : w'.cell? ⟨E, 2, none⟩ = some (.string ky) := hT.2.cell (j := 2) rfl
            clear hd hk
            simp only [execOp, e90]
            go_simp
          · -- 9: Op.fieldAddr 37 (Operand.tmp 9) 3
            refine ⟨.inl rfl, .inl ⟨by decide, 0, 1, [], [10, 9], by decide +kernel, by decide +kernel, ?_⟩⟩
            intro s_ a' w' hlo hhi hsl hk hd hT
            have e9 : a'.eval (.tmp 9) = .pointer (some ⟨E, 0, none⟩) := hk.at 9 (by decide +kernel)
            clear hd hk hT
            simp only [execOp, e9]
            go_simp
          · -- 10: Op.load 9 (Operand.tmp 92)
            refine ⟨.inl rfl, .inl ⟨by decide, 0, 1, [], [10], by decide +kernel, by decide +kernel, ?_⟩⟩
            intro s_ a' w' hlo hhi hsl hk hd hT
            have e92 : a'.eval (.tmp 92) = .pointer (some ⟨E, 3, none⟩) := hd 9 92 (by decide +kernel)
            have cc : w'.cell? ⟨E, 3, none⟩ = some (.string vl) := hT.2.cell (j := 3) rfl
            clear hd hk
            simp only [execOp, e92]
            go_simp
          · -- 11: Op.call ( callee := Callee.value (Operand.func 21), args := 
            refine ⟨.inl rfl, .inr ⟨1, rfl, ?_⟩⟩
            intro a' w' hk hd hT
            have e89 : a'.eval (.tmp 89) = PT Y := hd 6 89 (by decide +kernel)
            have e91 : a'.eval (.tmp 91) = .string ky := hd 8 91 (by decide +kernel)
            have e93 : a'.eval (.tmp 93) = .string vl := hd 10 93 (by decide +kernel)
            refine wp_call_at 21 _ _ (run_enter 21 _ _ rfl (by kernel_rfl)) ?_
            simp only [List.map_toArray, List.map_nil, List.map_cons, e89, e91, e93]
            have hT2 := hT.2
            have hT1 : Two (fun b => b = E) w0 w' D R (i) (s) (s) X Y id (z1) (z) := hT.1
            clear hT
            refine ((HZ1.out ▸ hT1 : Two (fun b => b = E) w0 w' D R i s s X Y id (putO z (ky, vl, false)).2 z).yput).mono ?_
            rintro e_ w2 ⟨he, k1, k2⟩
            rw [HZ1.out] at k1
            rw [HER.out] at he
            exact ⟨he, k1, hT2.same k2 rfl⟩
          · -- 12: Op.binOp BinOp.eql 3 (Operand.tmp 88) (Operand.tmp 94) 3
            refine ⟨.inl rfl, .inl ⟨by decide, 2, 2, [11], [], by decide +kernel, by decide +kernel, ?_⟩⟩
            intro s_ a' w' hlo hhi hsl hk hd hT
            have e88 : a'.eval (.tmp 88) = .int .i64 er := hd 5 88 (by decide +kernel)
            have e94 : a'.eval (.tmp 94) = .int .i64 er := hd 11 94 (by decide +kernel)
            clear hd hk hT
            simp only [execOp, e88, e94]
            go_simp
          · -- 13: Op.assign (Operand.tmp 95)
            refine ⟨.inl rfl, .inl ⟨by decide, 2, 2, [11], [], by decide +kernel, by decide +kernel, ?_⟩⟩
            intro s_ a' w' hlo hhi hsl hk hd hT
            have e95 : a'.eval (.tmp 95) = .bool true := hd 12 95 (by decide +kernel)
            simp only [execOp, e95]
            rfl
        · intro a' w9 hsz hdf hk hall hT
          have e83 : a'.eval (.tmp 83) = PT X := hall 0 _ 83 rfl rfl
          have e84 : a'.eval (.tmp 84) = .pointer (some ⟨E, 2, none⟩) := hall 1 _ 84 rfl rfl
          have e85 : a'.eval (.tmp 85) = .string ky := hall 2 _ 85 rfl rfl
          have e86 : a'.eval (.tmp 86) = .pointer (some ⟨E, 3, none⟩) := hall 3 _ 86 rfl rfl
          have e87 : a'.eval (.tmp 87) = .string vl := hall 4 _ 87 rfl rfl
          have e88 : a'.eval (.tmp 88) = .int .i64 er := hall 5 _ 88 rfl rfl
          have e89 : a'.eval (.tmp 89) = PT Y := hall 6 _ 89 rfl rfl
          have e90 : a'.eval (.tmp 90) = .pointer (some ⟨E, 2, none⟩) := hall 7 _ 90 rfl rfl
          have e91 : a'.eval (.tmp 91) = .string ky := hall 8 _ 91 rfl rfl
          have e92 : a'.eval (.tmp 92) = .pointer (some ⟨E, 3, none⟩) := hall 9 _ 92 rfl rfl
          have e93 : a'.eval (.tmp 93) = .string vl := hall 10 _ 93 rfl rfl
          have e94 : a'.eval (.tmp 94) = .int .i64 er := hall 11 _ 94 rfl rfl
          have e95 : a'.eval (.tmp 95) = .bool true := hall 12 _ 95 rfl rfl
          have e10 : a'.eval (.tmp 10) = .bool true := hall 13 _ 10 rfl rfl
          have ha := act_puts 174 rfl hsz hdf hk [83, 84, 85, 86, 87, 88, 89, 90, 91, 92, 93, 94, 95, 10] (by decide +kernel)
          simp only [puts, List.foldl_cons, List.foldl_nil, e83, e84, e85, e86, e87, e88, e89, e90, e91, e92, e93, e94, e95, e10] at ha
          simp only [Act.put, List.setIfInBounds_toArray, List.set_cons_succ, List.set_cons_zero] at ha
          clear hall hk hsz hdf e83 e84 e85 e86 e87 e88 e89 e90 e91 e92 e93 e94 e95 e10
          subst ha
          have H9 := hide hT
          clear hT
          have H8 : Hid (Two (fun b => b = E) w0 w9 D R (i) (s) (s) X Y id (z1) (z1)) := (show _ from H9.out.1)
          clear H9
          go_wp2_with fail
          go_ret
          exact ⟨rfl, _, _, (H8.out.less (fun _ hb => hb.elim)).mono (by omega)⟩
      · have q2 : (kd == 2) = false := by simp [h2]
        by_cases h3 : kd = 3
        · subst h3
          obtain ⟨z1, HZ1⟩ : ∃ x, Hid ((putO z (ky, em, true)).2 = x) := ⟨_, rfl⟩
          obtain ⟨er, HER⟩ : ∃ x : Int, Hid ((putO z (ky, em, true)).1 = x) := ⟨_, rfl⟩
          go_upto_region 16 with fail
          clear c0
          refine wp_region_chain8 Tryz.mixed (fun i_ => match i_ with | 0 => PT X | 1 | 5 => .pointer (some ⟨E, 2, none⟩) | 2 | 6 => .string ky | 3 | 7 => .int .i64 er | 4 => PT Y | 8 | 9 => .bool true | _ => undef) (AT w0 D R X Y id E (AC ⟨3, xn, ky, vl, st, pl, ad, cpa⟩) (fun | 0 => i | 1 => i | _ => i) (fun | 0 => s | 1 => s | _ => s) (fun | 0 => s | 1 => s | _ => s) (fun | 0 => z | 1 => z1 | _ => z1) (fun | 0 => z | 1 => z | _ => z1)) [3, 7] [[3]] 174 rfl (by decide +kernel) (by decide +kernel) (by decide) (by decide +kernel) ?_ ?_ ?_
          · exact fun w' hh hg => ⟨A1.out.kept hg, B1.out.kept hg⟩
          · refine AllFrom.cons ?_ (AllFrom.cons ?_ (AllFrom.cons ?_ (AllFrom.cons ?_ (AllFrom.cons ?_ (AllFrom.cons ?_ (AllFrom.cons ?_ (AllFrom.cons ?_ (AllFrom.cons ?_ (AllFrom.cons ?_ AllFrom.nil)))))))))
            · -- 0: Op.move (Operand.tmp 0)
              refine ⟨.inl rfl, .inl ⟨by decide, 0, 0, [], [0], by decide +kernel, by decide +kernel, ?_⟩⟩
              intro s_ a' w' hlo hhi hsl hk hd hT
              have e0 : a'.eval (.tmp 0) = PT X := hk.at 0 (by decide +kernel)
              simp only [execOp, e0]
              rfl
            · -- 1: Op.fieldAddr 37 (Operand.tmp 9) 2
              refine ⟨.inl rfl, .inl ⟨by decide, 0, 0, [], [2, 1], by decide +kernel, by decide +kernel, ?_⟩⟩
              intro s_ a' w' hlo hhi hsl hk hd hT
              have e9 : a'.eval (.tmp 9) = .pointer (some ⟨E, 0, none⟩) := hk.at 9 (by decide +kernel)
              clear hd hk hT
              simp only [execOp, e9]
              go_simp
            · -- 2: Op.load 9 (Operand.tmp 99)
              refine ⟨.inl rfl, .inl ⟨by decide, 0, 0, [], [2], by decide +kernel, by decide +kernel, ?_⟩⟩
              intro s_ a' w' hlo hhi hsl hk hd hT
              have e99 : a'.eval (.tmp 99) = .pointer (some ⟨E, 2, none⟩) := hd 1 99 (by decide +kernel)
              have cc : w'.cell? ⟨E, 2, none⟩ = some (.string ky) := hT.2.cell (j := 2) rfl
              clear hd hk
              simp only [execOp, e99]
              go_simp
            · -- 3: Op.call ( callee := Callee.value (Operand.func 22), args := 
              refine ⟨.inl rfl, .inr ⟨0, rfl, ?_⟩⟩
              intro a' w' hk hd hT
              have e98 : a'.eval (.tmp 98) = PT X := hd 0 98 (by decide +kernel)
              have e100 : a'.eval (.tmp 100) = .string ky := hd 2 100 (by decide +kernel)
              refine wp_call_at 22 _ _ (run_enter 22 _ _ rfl (by kernel_rfl)) ?_
              simp only [List.map_toArray, List.map_nil, List.map_cons, e98, e100]
              have hT2 := hT.2
              have hT1 : Two (fun b => b = E) w0 w' D R (i) (s) (s) X Y id (z) (z) := hT.1
              clear hT
              refine (hT1.zdrop ky HKM.out).mono ?_
              rintro e_ w2 ⟨he, k1, k2⟩
              rw [HZ1.out] at k1
              rw [HER.out] at he
              exact ⟨he, k1, hT2.same k2 rfl⟩
            · -- 4: Op.move (Operand.tmp 2)
              refine ⟨.inl rfl, .inl ⟨by decide, 0, 1, [], [4], by decide +kernel, by decide +kernel, ?_⟩⟩
              intro s_ a' w' hlo hhi hsl hk hd hT
              have e2 : a'.eval (.tmp 2) = PT Y := hk.at 2 (by decide +kernel)
              simp only [execOp, e2]
              rfl
            · -- 5: Op.fieldAddr 37 (Operand.tmp 9) 2
              refine ⟨.inl rfl, .inl ⟨by decide, 0, 1, [], [6, 5], by decide +kernel, by decide +kernel, ?_⟩⟩
              intro s_ a' w' hlo hhi hsl hk hd hT
              have e9 : a'.eval (.tmp 9) = .pointer (some ⟨E, 0, none⟩) := hk.at 9 (by decide +kernel)
              clear hd hk hT
              simp only [execOp, e9]
              go_simp
            · -- 6: Op.load 9 (Operand.tmp 103)
              refine ⟨.inl rfl, .inl ⟨by decide, 0, 1, [], [6], by decide +kernel, by decide +kernel, ?_⟩⟩
              intro s_ a' w' hlo hhi hsl hk hd hT
              have e103 : a'.eval (.tmp 103) = .pointer (some ⟨E, 2, none⟩) := hd 5 103 (by decide +kernel)
              have cc : w'.cell? ⟨E, 2, none⟩ = some (.string ky) := hT.2.cell (j := 2) rfl
              clear hd hk
              simp only [execOp, e103]
              go_simp
            · -- 7: Op.call ( callee := Callee.value (Operand.func 23), args := 
              refine ⟨.inl rfl, .inr ⟨1, rfl, ?_⟩⟩
              intro a' w' hk hd hT
              have e102 : a'.eval (.tmp 102) = PT Y := hd 4 102 (by decide +kernel)
              have e104 : a'.eval (.tmp 104) = .string ky := hd 6 104 (by decide +kernel)
              refine wp_call_at 23 _ _ (run_enter 23 _ _ rfl (by kernel_rfl)) ?_
              simp only [List.map_toArray, List.map_nil, List.map_cons, e102, e104]
              have hT2 := hT.2
              have hT1 : Two (fun b => b = E) w0 w' D R (i) (s) (s) X Y id (z1) (z) := hT.1
              clear hT
              refine ((HZ1.out ▸ hT1 : Two (fun b => b = E) w0 w' D R i s s X Y id (putO z (ky, em, true)).2 z).ydrop).mono ?_
              rintro e_ w2 ⟨he, k1, k2⟩
              rw [HZ1.out] at k1
              rw [HER.out] at he
              exact ⟨he, k1, hT2.same k2 rfl⟩
            · -- 8: Op.binOp BinOp.eql 3 (Operand.tmp 101) (Operand.tmp 105) 3
              refine ⟨.inl rfl, .inl ⟨by decide, 2, 2, [7], [], by decide +kernel, by decide +kernel, ?_⟩⟩
              intro s_ a' w' hlo hhi hsl hk hd hT
              have e101 : a'.eval (.tmp 101) = .int .i64 er := hd 3 101 (by decide +kernel)
              have e105 : a'.eval (.tmp 105) = .int .i64 er := hd 7 105 (by decide +kernel)
              clear hd hk hT
              simp only [execOp, e101, e105]
              go_simp
            · -- 9: Op.assign (Operand.tmp 106)
              refine ⟨.inl rfl, .inl ⟨by decide, 2, 2, [7], [], by decide +kernel, by decide +kernel, ?_⟩⟩
              intro s_ a' w' hlo hhi hsl hk hd hT
              have e106 : a'.eval (.tmp 106) = .bool true := hd 8 106 (by decide +kernel)
              simp only [execOp, e106]
              rfl
          · intro a' w9 hsz hdf hk hall hT
            have e98 : a'.eval (.tmp 98) = PT X := hall 0 _ 98 rfl rfl
            have e99 : a'.eval (.tmp 99) = .pointer (some ⟨E, 2, none⟩) := hall 1 _ 99 rfl rfl
            have e100 : a'.eval (.tmp 100) = .string ky := hall 2 _ 100 rfl rfl
            have e101 : a'.eval (.tmp 101) = .int .i64 er := hall 3 _ 101 rfl rfl
            have e102 : a'.eval (.tmp 102) = PT Y := hall 4 _ 102 rfl rfl
            have e103 : a'.eval (.tmp 103) = .pointer (some ⟨E, 2, none⟩) := hall 5 _ 103 rfl rfl
            have e104 : a'.eval (.tmp 104) = .string ky := hall 6 _ 104 rfl rfl
            have e105 : a'.eval (.tmp 105) = .int .i64 er := hall 7 _ 105 rfl rfl
            have e106 : a'.eval (.tmp 106) = .bool true := hall 8 _ 106 rfl rfl
            have e10 : a'.eval (.tmp 10) = .bool true := hall 9 _ 10 rfl rfl
            have ha := act_puts 174 rfl hsz hdf hk [98, 99, 100, 101, 102, 103, 104, 105, 106, 10] (by decide +kernel)
            simp only [puts, List.foldl_cons, List.foldl_nil, e98, e99, e100, e101, e102, e103, e104, e105, e106, e10] at ha
            simp only [Act.put, List.setIfInBounds_toArray, List.set_cons_succ, List.set_cons_zero] at ha
            clear hall hk hsz hdf e98 e99 e100 e101 e102 e103 e104 e105 e106 e10
            subst ha
            have H9 := hide hT
            clear hT
            have H8 : Hid (Two (fun b => b = E) w0 w9 D R (i) (s) (s) X Y id (z1) (z1)) := (show _ from H9.out.1)
            clear H9
            go_wp2_with fail
            go_ret
            exact ⟨rfl, _, _, (H8.out.less (fun _ hb => hb.elim)).mono (by omega)⟩
        · have q3 : (kd == 3) = false := by simp [h3]
          by_cases h4 : kd = 4
          · subst h4
            obtain ⟨ks, hks⟩ := A1.out.inv
            have HKS := hide hks
            clear hks
            have CS := hide (A1.out.zscan (by omega) HKS.out ky vl)
            have c2 : w1.cell? ⟨E, 2, none⟩ = some (.string ky) := B1.out.cell (j := 2) rfl
            have c3 : w1.cell? ⟨E, 3, none⟩ = some (.string vl) := B1.out.cell (j := 3) rfl
            go_wp2_with fail
            refine CS.out.mono ?_
            rintro e w2 ⟨v2, rfl, hr2, ht2, hsm2⟩
            have CV := hide (ht2.yscan (by omega) HKS.out hr2)
            have B2 := hide (B1.out.same hsm2 rfl)
            clear hr2 ht2 hsm2 CS c0 c2 c3
            have c2 : w2.cell? ⟨E, 2, none⟩ = some (.string ky) := B2.out.cell (j := 2) rfl
            have c3 : w2.cell? ⟨E, 3, none⟩ = some (.string vl) := B2.out.cell (j := 3) rfl
            obtain ⟨⟨⟨r1, er⟩, z1⟩, HG⟩ : ∃ x, Hid (scanO s ks z ky vl = x) := ⟨_, rfl⟩
            rw [HG.out] at CV ⊢
            simp only at CV ⊢
            go_wp2_with fail
            refine CV.out.mono ?_
            rintro e w3 ⟨v3, rfl, hr3, ht3, hsm3, hu3⟩
            have T3 := hide ht3
            have R3 := hide hr3
            have RB3 : Hid (RdG PE w3 v2 r1) := hu3.rd
            clear hr3 ht3 hu3 hsm3 CV c2 c3
            have CE := hide (vsame_any RB3.out R3.out)
            rw [show decide (r1 = r1) = true by simp] at CE
            go_wp2_with fail
            refine CE.out.mono ?_
            rintro e w4 ⟨rfl, hb4⟩
            have T4 := hide (T3.out.kept hb4)
            clear hb4 CE
            go_wp2_with fail
            go_ret
            exact ⟨rfl, _, _, (T4.out.less (fun _ hb => hb.elim)).mono (by omega)⟩
          · have q4 : (kd == 4) = false := by simp [h4]
            by_cases h5 : kd = 5
            · subst h5
              have CS := hide A1.out.zclose
              go_wp2_with fail
              refine CS.out.mono ?_
              rintro e w2 ⟨rfl, ht2, -⟩
              have CV := hide ht2.yclose
              clear ht2 CS c0
              obtain ⟨zb, HZB⟩ : ∃ x, Hid (z.isSome = x) := ⟨_, rfl⟩
              rw [HZB.out] at CV ⊢
              go_wp2_with fail
              refine CV.out.mono ?_
              rintro e w3 ⟨rfl, ht3, -⟩
              have T3 := hide ht3
              clear ht3 CV
              go_wp2_with fail
              go_ret
              exact ⟨rfl, _, _, (T3.out.less (fun _ hb => hb.elim)).mono (by omega)⟩
            · have q5 : (kd == 5) = false := by simp [h5]
              by_cases h6 : kd = 6
              · subst h6
                obtain ⟨sl, HSL⟩ : ∃ x : Int, Hid (s.last = x) := ⟨_, rfl⟩
                rw [HSL.out] at hbn
                obtain ⟨s1, HS1⟩ : ∃ x, Hid (instP s (sl + 1) pl = x) := ⟨_, rfl⟩
                obtain ⟨er, HER⟩ : ∃ x : Int, Hid ((if instOk s (sl + 1) pl = true then 0 else 2) = x) := ⟨_, rfl⟩
                go_upto_region 24 with fail
                clear c0
                refine wp_region_chain8 Tryz.mixed (fun i_ => match i_ with | 0 | 1 => PT D | 2 | 11 => .int .i64 sl | 3 | 12 => .int .i64 (sl + 1) | 4 | 13 => .pointer (some ⟨E, 5, none⟩) | 5 | 14 => .slice ad pl.length cpa | 6 | 15 => .int .i64 er | 7 | 8 => PT R | 9 => .pointer (some ⟨R, 0, none⟩) | 10 => .pointer (some ⟨R, 1, none⟩) | 16 | 17 => .bool true | _ => undef) (AT w0 D R X Y id E (AC ⟨6, xn, ky, vl, st, pl, ad, cpa⟩) (fun | 0 => i | 1 => i | 2 => i + 1 | _ => i + 1 + 1) (fun | 0 => s | 1 => s | 2 => s1 | _ => s1) (fun | 0 => s | 1 => s | 2 => s | _ => s1) (fun | 0 => z | 1 => z | 2 => z | _ => z) (fun | 0 => z | 1 => z | 2 => z | _ => z)) [2, 6, 15] [[2], [6]] 174 rfl (by decide +kernel) (by decide +kernel) (by decide) (by decide +kernel) ?_ ?_ ?_
                · exact fun w' hh hg => ⟨A1.out.kept hg, B1.out.kept hg⟩
                · refine AllFrom.cons ?_ (AllFrom.cons ?_ (AllFrom.cons ?_ (AllFrom.cons ?_ (AllFrom.cons ?_ (AllFrom.cons ?_ (AllFrom.cons ?_ (AllFrom.cons ?_ (AllFrom.cons ?_ (AllFrom.cons ?_ (AllFrom.cons ?_ (AllFrom.cons ?_ (AllFrom.cons ?_ (AllFrom.cons ?_ (AllFrom.cons ?_ (AllFrom.cons ?_ (AllFrom.cons ?_ (AllFrom.cons ?_ AllFrom.nil)))))))))))))))))
                  · -- 0: Op.move (Operand.tmp 1)
                    refine ⟨.inl rfl, .inl ⟨by decide, 0, 1, [], [0], by decide +kernel, by decide +kernel, ?_⟩⟩
                    intro s_ a' w' hlo hhi hsl hk hd hT
                    have e1 : a'.eval (.tmp 1) = PT D := hk.at 1 (by decide +kernel)
                    simp only [execOp, e1]
                    rfl
                  · -- 1: Op.move (Operand.tmp 1)
                    refine ⟨.inl rfl, .inl ⟨by decide, 0, 0, [], [1], by decide +kernel, by decide +kernel, ?_⟩⟩
                    intro s_ a' w' hlo hhi hsl hk hd hT
                    have e1 : a'.eval (.tmp 1) = PT D := hk.at 1 (by decide +kernel)
                    simp only [execOp, e1]
                    rfl
                  · -- 2: Op.call ( callee := Callee.value (Operand.func 30), args := 
                    refine ⟨.inl rfl, .inr ⟨0, rfl, ?_⟩⟩
                    intro a' w' hk hd hT
                    have e147 : a'.eval (.tmp 147) = PT D := hd 1 147 (by decide +kernel)
                    refine wp_call_at 30 _ _ (run_enter 30 _ _ rfl (by kernel_rfl)) ?_
                    simp only [List.map_toArray, List.map_nil, List.map_cons, e147]
                    have hT2 := hT.2
                    have hT1 : Two (fun b => b = E) w0 w' D R (i) (s) (s) X Y id (z) (z) := hT.1
                    clear hT
                    refine hT1.last.mono ?_
                    rintro e_ w2 ⟨he, hw⟩
                    subst w2
                    rw [HSL.out] at he
                    exact ⟨he, hT1, hT2⟩
                  · -- 3: Op.binOp BinOp.add 3 (Operand.tmp 148) (Operand.const (Value
                    refine ⟨.inl rfl, .inl ⟨by decide, 1, 1, [2], [3], by decide +kernel, by decide +kernel, ?_⟩⟩
                    intro s_ a' w' hlo hhi hsl hk hd hT
                    have e148 : a'.eval (.tmp 148) = .int .i64 sl := hd 2 148 (by decide +kernel)
                    clear hT
                    simp only [execOp, e148]
                    go_simp
                    exact wr64 (by omega) (by omega)
                  · -- 4: Op.fieldAddr 37 (Operand.tmp 9) 5
                    refine ⟨.inl rfl, .inl ⟨by decide, 0, 1, [], [5, 4], by decide +kernel, by decide +kernel, ?_⟩⟩
                    intro s_ a' w' hlo hhi hsl hk hd hT
                    have e9 : a'.eval (.tmp 9) = .pointer (some ⟨E, 0, none⟩) := hk.at 9 (by decide +kernel)
                    clear hd hk hT
                    simp only [execOp, e9]
                    go_simp
                  · -- 5: Op.load 35 (Operand.tmp 150)
                    refine ⟨.inl rfl, .inl ⟨by decide, 0, 1, [], [5], by decide +kernel, by decide +kernel, ?_⟩⟩
                    intro s_ a' w' hlo hhi hsl hk hd hT
                    have e150 : a'.eval (.tmp 150) = .pointer (some ⟨E, 5, none⟩) := hd 4 150 (by decide +kernel)
                    have cc : w'.cell? ⟨E, 5, none⟩ = some (.slice ad pl.length cpa) := hT.2.cell (j := 5) rfl
                    clear hd hk
                    simp only [execOp, e150]
                    go_simp
                  · -- 6: Op.call ( callee := Callee.value (Operand.func 29), args := 
                    refine ⟨.inl rfl, .inr ⟨1, rfl, ?_⟩⟩
                    intro a' w' hk hd hT
                    have e146 : a'.eval (.tmp 146) = PT D := hd 0 146 (by decide +kernel)
                    have e149 : a'.eval (.tmp 149) = .int .i64 (sl + 1) := hd 3 149 (by decide +kernel)
                    have e151 : a'.eval (.tmp 151) = .slice ad pl.length cpa := hd 5 151 (by decide +kernel)
                    refine wp_call_at 29 _ _ (run_enter 29 _ _ rfl (by kernel_rfl)) ?_
                    simp only [List.map_toArray, List.map_nil, List.map_cons, e146, e149, e151]
                    have hT2 := hT.2
                    have hT1 : Two (fun b => b = E) w0 w' D R (i) (s) (s) X Y id (z) (z) := hT.1
                    clear hT
                    refine (hT1.install (by omega) HA.out.r HL60.out (sl + 1)).mono ?_
                    rintro e_ w2 ⟨he, k1, k2⟩
                    rw [HS1.out] at k1
                    rw [HER.out] at he
                    exact ⟨he, k1, hT2.same k2 rfl⟩
                  · -- 7: Op.move (Operand.tmp 3)
                    refine ⟨.inl rfl, .inl ⟨by decide, 0, 2, [], [7], by decide +kernel, by decide +kernel, ?_⟩⟩
                    intro s_ a' w' hlo hhi hsl hk hd hT
                    have e3 : a'.eval (.tmp 3) = PT R := hk.at 3 (by decide +kernel)
                    simp only [execOp, e3]
                    rfl
                  · -- 8: Op.move (Operand.tmp 3)
                    refine ⟨.inl rfl, .inl ⟨by decide, 0, 2, [], [12, 11, 10, 9, 8], by decide +kernel, by decide +kernel, ?_⟩⟩
                    intro s_ a' w' hlo hhi hsl hk hd hT
                    have e3 : a'.eval (.tmp 3) = PT R := hk.at 3 (by decide +kernel)
                    simp only [execOp, e3]
                    rfl
                  · -- 9: Op.nilCheck (Operand.tmp 154)
                    refine ⟨.inl rfl, .inl ⟨by decide, 0, 2, [], [12, 11, 10, 9], by decide +kernel, by decide +kernel, ?_⟩⟩
                    intro s_ a' w' hlo hhi hsl hk hd hT
                    have e154 : a'.eval (.tmp 154) = PT R := hd 8 154 (by decide +kernel)
                    clear hd hk hT
                    simp only [execOp, e154]
                    go_simp
                  · -- 10: Op.fieldAddr 34 (Operand.tmp 155) 1
                    refine ⟨.inl rfl, .inl ⟨by decide, 0, 2, [], [12, 11, 10], by decide +kernel, by decide +kernel, ?_⟩⟩
                    intro s_ a' w' hlo hhi hsl hk hd hT
                    have e155 : a'.eval (.tmp 155) = .pointer (some ⟨R, 0, none⟩) := hd 9 155 (by decide +kernel)
                    clear hd hk hT
                    simp only [execOp, e155]
                    go_simp
                  · -- 11: Op.load 3 (Operand.tmp 156)
                    refine ⟨.inl rfl, .inl ⟨by decide, 0, 2, [], [12, 11], by decide +kernel, by decide +kernel, ?_⟩⟩
                    intro s_ a' w' hlo hhi hsl hk hd hT
                    have e156 : a'.eval (.tmp 156) = .pointer (some ⟨R, 1, none⟩) := hd 10 156 (by decide +kernel)
                    have cc : w'.cell? ⟨R, 1, none⟩ = some (.int .i64 sl) := (match s_, hhi, hT with | 0, _, h => (by have h1 : Two (fun b => b = E) w0 w' D R (i) (s) (s) X Y id (z) (z) := h.1; have h2 := h1.rlast; rw [HSL.out] at h2; exact h2) | 1, _, h => (by have h1 : Two (fun b => b = E) w0 w' D R (i) (s) (s) X Y id (z) (z) := h.1; have h2 := h1.rlast; rw [HSL.out] at h2; exact h2) | 2, _, h => (by have h1 : Two (fun b => b = E) w0 w' D R (i + 1) (s1) (s) X Y id (z) (z) := h.1; have h2 := h1.rlast; rw [HSL.out] at h2; exact h2) | (n + 3), h, _ => absurd h (by omega))
                    clear hd hk hT
                    simp only [execOp, e156]
                    go_simp
                  · -- 12: Op.binOp BinOp.add 3 (Operand.tmp 157) (Operand.const (Value
                    refine ⟨.inl rfl, .inl ⟨by decide, 0, 2, [], [12], by decide +kernel, by decide +kernel, ?_⟩⟩
                    intro s_ a' w' hlo hhi hsl hk hd hT
                    have e157 : a'.eval (.tmp 157) = .int .i64 sl := hd 11 157 (by decide +kernel)
                    clear hT
                    simp only [execOp, e157]
                    go_simp
                    exact wr64 (by omega) (by omega)
                  · -- 13: Op.fieldAddr 37 (Operand.tmp 9) 5
                    refine ⟨.inl rfl, .inl ⟨by decide, 0, 2, [], [14, 13], by decide +kernel, by decide +kernel, ?_⟩⟩
                    intro s_ a' w' hlo hhi hsl hk hd hT
                    have e9 : a'.eval (.tmp 9) = .pointer (some ⟨E, 0, none⟩) := hk.at 9 (by decide +kernel)
                    clear hd hk hT
                    simp only [execOp, e9]
                    go_simp
                  · -- 14: Op.load 35 (Operand.tmp 159)
                    refine ⟨.inl rfl, .inl ⟨by decide, 0, 2, [], [14], by decide +kernel, by decide +kernel, ?_⟩⟩
                    intro s_ a' w' hlo hhi hsl hk hd hT
                    have e159 : a'.eval (.tmp 159) = .pointer (some ⟨E, 5, none⟩) := hd 13 159 (by decide +kernel)
                    have cc : w'.cell? ⟨E, 5, none⟩ = some (.slice ad pl.length cpa) := hT.2.cell (j := 5) rfl
                    clear hd hk
                    simp only [execOp, e159]
                    go_simp
                  · -- 15: Op.call ( callee := Callee.value (Operand.func 31), args := 
                    refine ⟨.inl rfl, .inr ⟨2, rfl, ?_⟩⟩
                    intro a' w' hk hd hT
                    have e153 : a'.eval (.tmp 153) = PT R := hd 7 153 (by decide +kernel)
                    have e158 : a'.eval (.tmp 158) = .int .i64 (sl + 1) := hd 12 158 (by decide +kernel)
                    have e160 : a'.eval (.tmp 160) = .slice ad pl.length cpa := hd 14 160 (by decide +kernel)
                    refine wp_call_at 31 _ _ (run_enter 31 _ _ rfl (by kernel_rfl)) ?_
                    simp only [List.map_toArray, List.map_nil, List.map_cons, e153, e158, e160]
                    have hT2 := hT.2
                    have hT1 : Two (fun b => b = E) w0 w' D R (i + 1) (s1) (s) X Y id (z) (z) := hT.1
                    clear hT
                    refine (hT1.vinstall (by omega) HA.out.r HL60.out (sl + 1)).mono ?_
                    rintro e_ w2 ⟨he, k1, k2⟩
                    rw [HS1.out] at k1
                    rw [HER.out] at he
                    exact ⟨he, k1, hT2.same k2 rfl⟩
                  · -- 16: Op.binOp BinOp.eql 3 (Operand.tmp 152) (Operand.tmp 161) 3
                    refine ⟨.inl rfl, .inl ⟨by decide, 3, 3, [15], [], by decide +kernel, by decide +kernel, ?_⟩⟩
                    intro s_ a' w' hlo hhi hsl hk hd hT
                    have e152 : a'.eval (.tmp 152) = .int .i64 er := hd 6 152 (by decide +kernel)
                    have e161 : a'.eval (.tmp 161) = .int .i64 er := hd 15 161 (by decide +kernel)
                    clear hd hk hT
                    simp only [execOp, e152, e161]
                    go_simp
                  · -- 17: Op.assign (Operand.tmp 162)
                    refine ⟨.inl rfl, .inl ⟨by decide, 3, 3, [15], [], by decide +kernel, by decide +kernel, ?_⟩⟩
                    intro s_ a' w' hlo hhi hsl hk hd hT
                    have e162 : a'.eval (.tmp 162) = .bool true := hd 16 162 (by decide +kernel)
                    simp only [execOp, e162]
                    rfl
                · intro a' w9 hsz hdf hk hall hT
                  have e146 : a'.eval (.tmp 146) = PT D := hall 0 _ 146 rfl rfl
                  have e147 : a'.eval (.tmp 147) = PT D := hall 1 _ 147 rfl rfl
                  have e148 : a'.eval (.tmp 148) = .int .i64 sl := hall 2 _ 148 rfl rfl
                  have e149 : a'.eval (.tmp 149) = .int .i64 (sl + 1) := hall 3 _ 149 rfl rfl
                  have e150 : a'.eval (.tmp 150) = .pointer (some ⟨E, 5, none⟩) := hall 4 _ 150 rfl rfl
                  have e151 : a'.eval (.tmp 151) = .slice ad pl.length cpa := hall 5 _ 151 rfl rfl
                  have e152 : a'.eval (.tmp 152) = .int .i64 er := hall 6 _ 152 rfl rfl
                  have e153 : a'.eval (.tmp 153) = PT R := hall 7 _ 153 rfl rfl
                  have e154 : a'.eval (.tmp 154) = PT R := hall 8 _ 154 rfl rfl
                  have e155 : a'.eval (.tmp 155) = .pointer (some ⟨R, 0, none⟩) := hall 9 _ 155 rfl rfl
                  have e156 : a'.eval (.tmp 156) = .pointer (some ⟨R, 1, none⟩) := hall 10 _ 156 rfl rfl
                  have e157 : a'.eval (.tmp 157) = .int .i64 sl := hall 11 _ 157 rfl rfl
                  have e158 : a'.eval (.tmp 158) = .int .i64 (sl + 1) := hall 12 _ 158 rfl rfl
                  have e159 : a'.eval (.tmp 159) = .pointer (some ⟨E, 5, none⟩) := hall 13 _ 159 rfl rfl
                  have e160 : a'.eval (.tmp 160) = .slice ad pl.length cpa := hall 14 _ 160 rfl rfl
                  have e161 : a'.eval (.tmp 161) = .int .i64 er := hall 15 _ 161 rfl rfl
                  have e162 : a'.eval (.tmp 162) = .bool true := hall 16 _ 162 rfl rfl
                  have e10 : a'.eval (.tmp 10) = .bool true := hall 17 _ 10 rfl rfl
                  have ha := act_puts 174 rfl hsz hdf hk [146, 147, 148, 149, 150, 151, 152, 153, 154, 155, 156, 157, 158, 159, 160, 161, 162, 10] (by decide +kernel)
                  simp only [puts, List.foldl_cons, List.foldl_nil, e146, e147, e148, e149, e150, e151, e152, e153, e154, e155, e156, e157, e158, e159, e160, e161, e162, e10] at ha
                  simp only [Act.put, List.setIfInBounds_toArray, List.set_cons_succ, List.set_cons_zero] at ha
                  clear hall hk hsz hdf e146 e147 e148 e149 e150 e151 e152 e153 e154 e155 e156 e157 e158 e159 e160 e161 e162 e10
                  subst ha
                  have H9 := hide hT
                  clear hT
                  have H8 : Hid (Two (fun b => b = E) w0 w9 D R (i + 1 + 1) (s1) (s1) X Y id (z) (z)) := (show _ from H9.out.1)
                  clear H9
                  go_wp2_with fail
                  go_ret
                  exact ⟨rfl, _, _, (H8.out.less (fun _ hb => hb.elim)).mono (by omega)⟩
              · have q6 : (kd == 6) = false := by simp [h6]
                by_cases h7 : kd = 7
                · subst h7
                  obtain ⟨s1, HS1⟩ : ∃ x, Hid (collP s xn = x) := ⟨_, rfl⟩
                  obtain ⟨er, HER⟩ : ∃ x : Int, Hid ((if collOk s xn = true then 0 else 2) = x) := ⟨_, rfl⟩
                  go_upto_region 26 with fail
                  clear c0
                  refine wp_region_chain8 Tryz.mixed (fun i_ => match i_ with | 0 => PT D | 1 | 5 => .pointer (some ⟨E, 1, none⟩) | 2 | 6 => .int .i64 xn | 3 | 7 => .int .i64 er | 4 => PT R | 8 | 9 => .bool true | _ => undef) (AT w0 D R X Y id E (AC ⟨7, xn, ky, vl, st, pl, ad, cpa⟩) (fun | 0 => i | 1 => i | _ => i) (fun | 0 => s | 1 => s1 | _ => s1) (fun | 0 => s | 1 => s | _ => s1) (fun | 0 => z | 1 => z | _ => z) (fun | 0 => z | 1 => z | _ => z)) [3, 7] [[3]] 174 rfl (by decide +kernel) (by decide +kernel) (by decide) (by decide +kernel) ?_ ?_ ?_
                  · exact fun w' hh hg => ⟨A1.out.kept hg, B1.out.kept hg⟩
                  · refine AllFrom.cons ?_ (AllFrom.cons ?_ (AllFrom.cons ?_ (AllFrom.cons ?_ (AllFrom.cons ?_ (AllFrom.cons ?_ (AllFrom.cons ?_ (AllFrom.cons ?_ (AllFrom.cons ?_ (AllFrom.cons ?_ AllFrom.nil)))))))))
                    · -- 0: Op.move (Operand.tmp 1)
                      refine ⟨.inl rfl, .inl ⟨by decide, 0, 0, [], [0], by decide +kernel, by decide +kernel, ?_⟩⟩
                      intro s_ a' w' hlo hhi hsl hk hd hT
                      have e1 : a'.eval (.tmp 1) = PT D := hk.at 1 (by decide +kernel)
                      simp only [execOp, e1]
                      rfl
                    · -- 1: Op.fieldAddr 37 (Operand.tmp 9) 1
                      refine ⟨.inl rfl, .inl ⟨by decide, 0, 0, [], [2, 1], by decide +kernel, by decide +kernel, ?_⟩⟩
                      intro s_ a' w' hlo hhi hsl hk hd hT
                      have e9 : a'.eval (.tmp 9) = .pointer (some ⟨E, 0, none⟩) := hk.at 9 (by decide +kernel)
                      clear hd hk hT
                      simp only [execOp, e9]
                      go_simp
                    · -- 2: Op.load 3 (Operand.tmp 166)
                      refine ⟨.inl rfl, .inl ⟨by decide, 0, 0, [], [2], by decide +kernel, by decide +kernel, ?_⟩⟩
                      intro s_ a' w' hlo hhi hsl hk hd hT
                      have e166 : a'.eval (.tmp 166) = .pointer (some ⟨E, 1, none⟩) := hd 1 166 (by decide +kernel)
                      have cc : w'.cell? ⟨E, 1, none⟩ = some (.int .i64 xn) := hT.2.cell (j := 1) rfl
                      clear hd hk
                      simp only [execOp, e166]
                      go_simp
                    · -- 3: Op.call ( callee := Callee.value (Operand.func 32), args := 
                      refine ⟨.inl rfl, .inr ⟨0, rfl, ?_⟩⟩
                      intro a' w' hk hd hT
                      have e165 : a'.eval (.tmp 165) = PT D := hd 0 165 (by decide +kernel)
                      have e167 : a'.eval (.tmp 167) = .int .i64 xn := hd 2 167 (by decide +kernel)
                      refine wp_call_at 32 _ _ (run_enter 32 _ _ rfl (by kernel_rfl)) ?_
                      simp only [List.map_toArray, List.map_nil, List.map_cons, e165, e167]
                      have hT2 := hT.2
                      have hT1 : Two (fun b => b = E) w0 w' D R (i) (s) (s) X Y id (z) (z) := hT.1
                      clear hT
                      refine (hT1.collect (by omega) xn).mono ?_
                      rintro e_ w2 ⟨he, k1, k2⟩
                      rw [HS1.out] at k1
                      rw [HER.out] at he
                      exact ⟨he, k1, hT2.same k2 rfl⟩
                    · -- 4: Op.move (Operand.tmp 3)
                      refine ⟨.inl rfl, .inl ⟨by decide, 0, 1, [], [4], by decide +kernel, by decide +kernel, ?_⟩⟩
                      intro s_ a' w' hlo hhi hsl hk hd hT
                      have e3 : a'.eval (.tmp 3) = PT R := hk.at 3 (by decide +kernel)
                      simp only [execOp, e3]
                      rfl
                    · -- 5: Op.fieldAddr 37 (Operand.tmp 9) 1
                      refine ⟨.inl rfl, .inl ⟨by decide, 0, 1, [], [6, 5], by decide +kernel, by decide +kernel, ?_⟩⟩
                      intro s_ a' w' hlo hhi hsl hk hd hT
                      have e9 : a'.eval (.tmp 9) = .pointer (some ⟨E, 0, none⟩) := hk.at 9 (by decide +kernel)
                      clear hd hk hT
                      simp only [execOp, e9]
                      go_simp
                    · -- 6: Op.load 3 (Operand.tmp 170)
                      refine ⟨.inl rfl, .inl ⟨by decide, 0, 1, [], [6], by decide +kernel, by decide +kernel, ?_⟩⟩
                      intro s_ a' w' hlo hhi hsl hk hd hT
                      have e170 : a'.eval (.tmp 170) = .pointer (some ⟨E, 1, none⟩) := hd 5 170 (by decide +kernel)
                      have cc : w'.cell? ⟨E, 1, none⟩ = some (.int .i64 xn) := hT.2.cell (j := 1) rfl
                      clear hd hk
                      simp only [execOp, e170]
                      go_simp
                    · -- 7: Op.call ( callee := Callee.value (Operand.func 33), args := 
                      refine ⟨.inl rfl, .inr ⟨1, rfl, ?_⟩⟩
                      intro a' w' hk hd hT
                      have e169 : a'.eval (.tmp 169) = PT R := hd 4 169 (by decide +kernel)
                      have e171 : a'.eval (.tmp 171) = .int .i64 xn := hd 6 171 (by decide +kernel)
                      refine wp_call_at 33 _ _ (run_enter 33 _ _ rfl (by kernel_rfl)) ?_
                      simp only [List.map_toArray, List.map_nil, List.map_cons, e169, e171]
                      have hT2 := hT.2
                      have hT1 : Two (fun b => b = E) w0 w' D R (i) (s1) (s) X Y id (z) (z) := hT.1
                      clear hT
                      refine (hT1.vcollect (by omega) xn).mono ?_
                      rintro e_ w2 ⟨he, k1, k2⟩
                      rw [HS1.out] at k1
                      rw [HER.out] at he
                      exact ⟨he, k1, hT2.same k2 rfl⟩
                    · -- 8: Op.binOp BinOp.eql 3 (Operand.tmp 168) (Operand.tmp 172) 3
                      refine ⟨.inl rfl, .inl ⟨by decide, 2, 2, [7], [], by decide +kernel, by decide +kernel, ?_⟩⟩
                      intro s_ a' w' hlo hhi hsl hk hd hT
                      have e168 : a'.eval (.tmp 168) = .int .i64 er := hd 3 168 (by decide +kernel)
                      have e172 : a'.eval (.tmp 172) = .int .i64 er := hd 7 172 (by decide +kernel)
                      clear hd hk hT
                      simp only [execOp, e168, e172]
                      go_simp
                    · -- 9: Op.assign (Operand.tmp 173)
                      refine ⟨.inl rfl, .inl ⟨by decide, 2, 2, [7], [], by decide +kernel, by decide +kernel, ?_⟩⟩
                      intro s_ a' w' hlo hhi hsl hk hd hT
                      have e173 : a'.eval (.tmp 173) = .bool true := hd 8 173 (by decide +kernel)
                      simp only [execOp, e173]
                      rfl
                  · intro a' w9 hsz hdf hk hall hT
                    have e165 : a'.eval (.tmp 165) = PT D := hall 0 _ 165 rfl rfl
                    have e166 : a'.eval (.tmp 166) = .pointer (some ⟨E, 1, none⟩) := hall 1 _ 166 rfl rfl
                    have e167 : a'.eval (.tmp 167) = .int .i64 xn := hall 2 _ 167 rfl rfl
                    have e168 : a'.eval (.tmp 168) = .int .i64 er := hall 3 _ 168 rfl rfl
                    have e169 : a'.eval (.tmp 169) = PT R := hall 4 _ 169 rfl rfl
                    have e170 : a'.eval (.tmp 170) = .pointer (some ⟨E, 1, none⟩) := hall 5 _ 170 rfl rfl
                    have e171 : a'.eval (.tmp 171) = .int .i64 xn := hall 6 _ 171 rfl rfl
                    have e172 : a'.eval (.tmp 172) = .int .i64 er := hall 7 _ 172 rfl rfl
                    have e173 : a'.eval (.tmp 173) = .bool true := hall 8 _ 173 rfl rfl
                    have e10 : a'.eval (.tmp 10) = .bool true := hall 9 _ 10 rfl rfl
                    have ha := act_puts 174 rfl hsz hdf hk [165, 166, 167, 168, 169, 170, 171, 172, 173, 10] (by decide +kernel)
                    simp only [puts, List.foldl_cons, List.foldl_nil, e165, e166, e167, e168, e169, e170, e171, e172, e173, e10] at ha
                    simp only [Act.put, List.setIfInBounds_toArray, List.set_cons_succ, List.set_cons_zero] at ha
                    clear hall hk hsz hdf e165 e166 e167 e168 e169 e170 e171 e172 e173 e10
                    subst ha
                    have H9 := hide hT
                    clear hT
                    have H8 : Hid (Two (fun b => b = E) w0 w9 D R (i) (s1) (s1) X Y id (z) (z)) := (show _ from H9.out.1)
                    clear H9
                    go_wp2_with fail
                    go_ret
                    exact ⟨rfl, _, _, (H8.out.less (fun _ hb => hb.elim)).mono (by omega)⟩
                · have q7 : (kd == 7) = false := by simp [h7]
                  go_wp2_with fail
                  go_ret
                  exact ⟨rfl, _, _, (A1.out.less (fun _ hb => hb.elim)).mono (by omega)⟩
end Go.Proofs.YtcicekggeampcaaGreat
