/-
  StoreActs: the walk.
-/
import Derived.Test.YtgaoionnfkbhaaaRfN
namespace Go.Proofs.Ytgaoionnfkbhaaa
open Go.RowKit
set_option maxRecDepth 100000 in
set_option maxHeartbeats 8000000 in
theorem storeActs_any {w : World} {v : Value} {L : List Ac} (h : RdG AE w v L) (hok : AcsOk w L) : Calls Try.prog 3 #[v] w fun e w' => e = .returned (.bool true) ∧ Below w.heap.size w w' := by
  have HL := hide h
  have HOK := hide hok
  obtain ⟨a, cp, rfl⟩ := h.slice
  have hz := Zact8
  have hn : L.length ≤ 9223372036854775807 := Nat.le_trans h.cap h.max
  clear h hok
  obtain ⟨m, HM⟩ : ∃ m, Hid (L.length = m) := ⟨_, rfl⟩
  rw [HM.out] at HL hn ⊢
  go_enter Try.func3, Try.ntmps3
  go_wp2_with fail
  refine (light_any HL.out HOK.out).mono ?_
  rintro e w2 ⟨b, rfl, hlight, hb2⟩
  have L2 := hide hb2
  clear hb2
  cases b with
  | false =>
    go_wp2_with fail
    refine (lives_any w2).mono ?_
    rintro e wz ⟨rfl, hbz⟩
    have LZ : Hid (Below w.heap.size w wz) := (L2.out).trans (hbz.mono (L2.out).size)
    clear hbz
    go_wp2_with fail
    go_ret
    exact ⟨rfl, LZ.out⟩
  | true =>
    have HLI := hide (hlight rfl)
    clear hlight
    have hm60 : m ≤ 60 := by have := HLI.out.1; rw [HM.out] at this; exact this
    go_wp2_with fail
    refine ls_new.mono ?_
    rintro e w3 ⟨D, rfl, hls⟩
    have S3 := hide hls
    clear hls
    have hbd : ∀ W, (Instr.build 30 #[]).run Try.prog W = .ok (.agg #[.slice none 0 0, .int .i64 0, .int .i64 0]) W := fun W => by kernel_rfl
    have S5 : Hid (LR2 w2 (w3.alloc (.cells (RC (.slice none 0 0) 0 0).toArray 30 (0, 0))) D w3.heap.size 0 sp0 sp0 (fun _ => False)) := lr_new S3.out ((Below.refl _ _).alloc (Nat.le_refl _) _) (Nat.le_refl _) (Blk.new w3 30 (RC (.slice none 0 0) 0 0))
    go_wp2_with fail
    obtain ⟨R, HR⟩ : ∃ R, Hid (w3.heap.size = R) := ⟨_, rfl⟩
    rw [HR.out] at S5 ⊢
    obtain ⟨w5, hw5⟩ : ∃ x, x = w3.alloc (.cells (RC (.slice none 0 0) 0 0).toArray 30 (0, 0)) := ⟨_, rfl⟩
    rw [← hw5] at S5
    have hw5' : w3.alloc (.cells #[.slice none 0 0, .int .i64 0, .int .i64 0] 30 (0, 0)) = w5 := hw5.symm
    rw [hw5']
    clear hw5 hw5' hbd S3
    go_loopg [16] m (fun g x wr => ∃ (i : Nat) (s : SP), g + i = m ∧ x = .int .i64 (i : Int) ∧ Hid (LR2 w2 wr D R (2 * i) s s (fun _ => False)))
    case atStart => exact ⟨0, sp0, by omega, rfl, S5⟩
    case round =>
      obtain ⟨i, s, hgi, rfl, SR⟩ := hrel
      by_cases hlt : i < m
      · have q2 : (i : Int) < (m : Int) := by omega
        have hrd := hide ((HL.out.kept L2.out).kept SR.out.lo)
        obtain ⟨b, off, rfl, hlb4, hx⟩ := (hrd.out).nth (by omega)
        have hlt' : i < L.length := by rw [HM.out]; exact hlt
        have hr : wr.rangeAt b (off + i * 6) (AC L[i]) := hx i hlt'
        obtain ⟨p, HPp⟩ : ∃ p, Hid (L[i] = p) := ⟨L[i], (show L[i] = L[i] from rfl)⟩
        rw [HPp.out] at hr
        clear hx hlb4
        go_upto_region 7 with (first
          | (refine wpList_load_mid rfl 33 _ rfl b (off + i * 6) rfl (AC p) _ hr Try.underlying33 rfl Try.size33 ?_)
          | (refine wpList_store_new rfl 33 _ _ rfl wr _ (AC p).toArray _ rfl rfl rfl Try.size33 rfl (all_one (AC_one p)) ?_)
          | fail)
        obtain ⟨E, HE⟩ : ∃ E, Hid (wr.heap.size = E) := ⟨_, rfl⟩
        rw [HE.out]
        obtain ⟨w4, hw4⟩ : ∃ x, x = wr.alloc (.cells (AC p).toArray 33 (0, 0)) := ⟨_, rfl⟩
        rw [← hw4]
        have G4 : Hid (Below wr.heap.size wr w4) := (show Below _ _ _ by rw [hw4]; exact (Below.refl _ _).alloc (Nat.le_refl _) _)
        have B4 : Hid (Blk w4 E 33 (AC p)) := (show Blk _ _ _ _ by rw [hw4, ← HE.out]; exact Blk.new wr 33 (AC p))
        clear hw4 hr
        have S4 : Hid (LR2 w2 w4 D R (2 * i) s s (fun b => b = E)) := (show LR2 _ _ _ _ _ _ _ _ from (SR.out.own G4.out (Nat.le_of_eq HE.out) B4.out.lt).less (fun _ hb => .inr hb))
        have hmem := List.getElem_mem hlt'
        rw [HPp.out] at hmem
        have HL60 := hide ((HLI.out.2.2 p hmem).1)
        have hfr := (HLI.out.2.2 p hmem).2.1
        have HA := hide ((HOK.out p hmem).kept L2.out)
        obtain ⟨s1, HS1⟩ : ∃ x, Hid (actS s p.kind p.n p.l = x) := ⟨_, rfl⟩
        obtain ⟨kd, xn, xm, ad, ln, cpa, pl, fr, tt⟩ := p
        simp only at HL60 HS1 hfr
        obtain ⟨V, HV⟩ : ∃ V, Hid (∀ ks, Inv s1 ks → versS s1 ks = V) := keys_free s1 0 (versS s1)
        obtain ⟨b1, HB1⟩ : ∃ b, Hid (wroteS s1 fr xn = b) := ⟨_, rfl⟩
        obtain ⟨b2, HB2⟩ : ∃ b, Hid (∀ ks, Inv s1 ks → withinS s1 ks fr tt xn = b) := keys_free s1 false (fun ks => withinS s1 ks fr tt xn)
        obtain ⟨b3, HB3⟩ : ∃ b, Hid (goodP em pl = b) := ⟨_, rfl⟩
        have A4 : Hid (ST w2 D R i s s1 E (AC ⟨kd, xn, xm, ad, ln, cpa, pl, fr, tt⟩) 0 w4) := ⟨S4.out, B4.out⟩
        clear hmem
        refine wp_region_chain8 Try.mixed (fun i_ => match i_ with | 0 | 6 | 15 | 24 | 31 | 46 => .pointer (some ⟨D, 0, none⟩) | 1 | 8 | 9 | 17 | 18 | 26 | 37 | 54 => .pointer (some ⟨R, 0, none⟩) | 2 => .agg (AC ⟨kd, xn, xm, ad, ln, cpa, pl, fr, tt⟩).toArray | 3 => .bool true | 4 | 5 | 12 | 13 | 14 | 21 | 22 | 23 | 28 | 29 | 30 | 43 | 44 | 45 | 62 | 63 | 64 | 71 | 72 => .bool false | 7 | 11 => .int .i64 s1.last | 10 => .pointer (some ⟨R, 1, none⟩) | 16 | 20 => .int .i64 s1.floor | 19 => .pointer (some ⟨R, 2, none⟩) | 25 | 27 => .int .i64 (V : Int) | 32 | 38 | 47 | 55 => .pointer (some ⟨E, 4, none⟩) | 33 | 39 | 48 | 56 => .string fr | 34 | 40 | 51 | 59 => .pointer (some ⟨E, 1, none⟩) | 35 | 41 | 52 | 60 => .int .i64 xn | 36 | 42 => .bool b1 | 49 | 57 => .pointer (some ⟨E, 5, none⟩) | 50 | 58 => .string tt | 53 | 61 => .bool b2 | 65 | 68 => .pointer (some ⟨E, 3, none⟩) | 66 | 69 => .slice ad ln cpa | 67 | 70 => .bool b3 | _ => undef) (ST w2 D R i s s1 E (AC ⟨kd, xn, xm, ad, ln, cpa, pl, fr, tt⟩)) [3, 7, 16, 25, 27, 36, 42, 53, 61, 67, 70] [[5, 3], [14, 7], [23, 16], [25], [30, 27], [36], [45, 42], [53], [64, 61], [67]] 95 rfl (by decide +kernel) (by decide +kernel) (by decide) (by decide +kernel) ?_ ?_ ?_
        · exact fun w' hh hg => A4.out.zero hg
        · refine AllFrom.cons ?_ (AllFrom.cons ?_ (AllFrom.cons ?_ (AllFrom.cons ?_ (AllFrom.cons ?_ (AllFrom.cons ?_ (AllFrom.cons ?_ (AllFrom.cons ?_ (AllFrom.cons ?_ (AllFrom.cons ?_ (AllFrom.cons ?_ (AllFrom.cons ?_ (AllFrom.cons ?_ (AllFrom.cons ?_ (AllFrom.cons ?_ (AllFrom.cons ?_ (AllFrom.cons ?_ (AllFrom.cons ?_ (AllFrom.cons ?_ (AllFrom.cons ?_ (AllFrom.cons ?_ (AllFrom.cons ?_ (AllFrom.cons ?_ (AllFrom.cons ?_ (AllFrom.cons ?_ (AllFrom.cons ?_ (AllFrom.cons ?_ (AllFrom.cons ?_ (AllFrom.cons ?_ (AllFrom.cons ?_ (AllFrom.cons ?_ (AllFrom.cons ?_ (AllFrom.cons ?_ (AllFrom.cons ?_ (AllFrom.cons ?_ (AllFrom.cons ?_ (AllFrom.cons ?_ (AllFrom.cons ?_ (AllFrom.cons ?_ (AllFrom.cons ?_ (AllFrom.cons ?_ (AllFrom.cons ?_ (AllFrom.cons ?_ (AllFrom.cons ?_ (AllFrom.cons ?_ (AllFrom.cons ?_ (AllFrom.cons ?_ (AllFrom.cons ?_ (AllFrom.cons ?_ (AllFrom.cons ?_ (AllFrom.cons ?_ (AllFrom.cons ?_ (AllFrom.cons ?_ (AllFrom.cons ?_ (AllFrom.cons ?_ (AllFrom.cons ?_ (AllFrom.cons ?_ (AllFrom.cons ?_ (AllFrom.cons ?_ (AllFrom.cons ?_ (AllFrom.cons ?_ (AllFrom.cons ?_ (AllFrom.cons ?_ (AllFrom.cons ?_ (AllFrom.cons ?_ (AllFrom.cons ?_ (AllFrom.cons ?_ (AllFrom.cons ?_ (AllFrom.cons ?_ (AllFrom.cons ?_ (AllFrom.cons ?_ (AllFrom.cons ?_ (AllFrom.cons ?_ AllFrom.nil))))))))))))))))))))))))))))))))))))))))))))))))))))))))))))))))))))))))
          · -- 0: Op.move (Operand.tmp 3)
            refine ⟨.inl rfl, .inl ⟨by decide, 0, 0, [], [0], by decide +kernel, by decide +kernel, ?_⟩⟩
            intro s_ a' w' hlo hhi hsl hk hd hT
            have e3 : a'.eval (.tmp 3) = .pointer (some ⟨D, 0, none⟩) := hk.at 3 (by decide +kernel)
            simp only [execOp, e3]
            rfl
          · -- 1: Op.move (Operand.tmp 4)
            refine ⟨.inl rfl, .inl ⟨by decide, 0, 0, [], [1], by decide +kernel, by decide +kernel, ?_⟩⟩
            intro s_ a' w' hlo hhi hsl hk hd hT
            have e4 : a'.eval (.tmp 4) = .pointer (some ⟨R, 0, none⟩) := hk.at 4 (by decide +kernel)
            simp only [execOp, e4]
            rfl
          · -- 2: Op.load 33 (Operand.tmp 6)
            refine ⟨.inl rfl, .inl ⟨by decide, 0, 0, [], [2], by decide +kernel, by decide +kernel, ?_⟩⟩
            intro s_ a' w' hlo hhi hsl hk hd hT
            have e6 : a'.eval (.tmp 6) = .pointer (some ⟨E, 0, none⟩) := hk.at 6 (by decide +kernel)
            have cc := hT.2.range0
            clear hd hk
            simp only [execOp, e6, Instr.loadAt, Instr.sureAddr, Sem.run_bind, Sem.run_pure, Result.andThen_ok, run_loadVar_mid w' E 0 33 (AC ⟨kd, xn, xm, ad, ln, cpa, pl, fr, tt⟩) _ cc Try.underlying33 rfl Try.size33]
          · -- 3: Op.call ( callee := Callee.value (Operand.func 12), args := 
            refine ⟨.inl rfl, .inr ⟨0, rfl, ?_⟩⟩
            intro a' w' hk hd hT
            have e20 : a'.eval (.tmp 20) = .pointer (some ⟨D, 0, none⟩) := hd 0 20 (by decide +kernel)
            have e21 : a'.eval (.tmp 21) = .pointer (some ⟨R, 0, none⟩) := hd 1 21 (by decide +kernel)
            have e22 : a'.eval (.tmp 22) = .agg (AC ⟨kd, xn, xm, ad, ln, cpa, pl, fr, tt⟩).toArray := hd 2 22 (by decide +kernel)
            refine wp_call_at 12 _ _ (run_enter 12 _ _ rfl (by kernel_rfl)) ?_
            simp only [List.map_toArray, List.map_nil, List.map_cons, e20, e21, e22]
            have hL : LR2 w2 w' D R (2 * i) s s (fun b => b = E) := hT.1
            refine (act_any hL (by omega) HA.out HL60.out).mono ?_
            rintro e_ w3 ⟨he, k1, k2, k3⟩
            simp only at k1
            rw [HS1.out] at k1
            exact ⟨he, k1, hT.2.same k2 rfl⟩
          · -- 4: Op.unOp UnOp.not 4 (Operand.tmp 23)
            refine ⟨.inl rfl, .inl ⟨by decide, 1, 1, [3], [5, 4], by decide +kernel, by decide +kernel, ?_⟩⟩
            intro s_ a' w' hlo hhi hsl hk hd hT
            have e23 : a'.eval (.tmp 23) = .bool true := hd 3 23 (by decide +kernel)
            clear hd hk hT
            simp only [execOp, e23]
            go_simp
          · -- 5: Op.move (Operand.tmp 24)
            refine ⟨.inl rfl, .inl ⟨by decide, 1, 1, [3], [5], by decide +kernel, by decide +kernel, ?_⟩⟩
            intro s_ a' w' hlo hhi hsl hk hd hT
            have e24 : a'.eval (.tmp 24) = .bool false := hd 4 24 (by decide +kernel)
            simp only [execOp, e24]
            rfl
          · -- 6: Op.move (Operand.tmp 3)
            refine ⟨.inr ⟨5, 25, false, rfl, by decide +kernel, rfl⟩, .inl ⟨by decide, 1, 1, [5, 3], [6], by decide +kernel, by decide +kernel, ?_⟩⟩
            intro s_ a' w' hlo hhi hsl hk hd hT
            have e3 : a'.eval (.tmp 3) = .pointer (some ⟨D, 0, none⟩) := hk.at 3 (by decide +kernel)
            simp only [execOp, e3]
            rfl
          · -- 7: Op.call ( callee := Callee.value (Operand.func 13), args := 
            refine ⟨.inr ⟨5, 25, false, rfl, by decide +kernel, rfl⟩, .inr ⟨1, rfl, ?_⟩⟩
            intro a' w' hk hd hT
            have e26 : a'.eval (.tmp 26) = .pointer (some ⟨D, 0, none⟩) := hd 6 26 (by decide +kernel)
            refine wp_call_at 13 _ _ (run_enter 13 _ _ rfl (by kernel_rfl)) ?_
            simp only [List.map_toArray, List.map_nil, List.map_cons, e26]
            have hL : LR2 w2 w' D R (2 * i + 2) s1 s1 (fun b => b = E) := hT.1
            refine (hL.ls.lastB).mono ?_
            rintro e_ w3 ⟨he, hb⟩
            exact ⟨he, hT.on hb⟩
          · -- 8: Op.move (Operand.tmp 4)
            refine ⟨.inr ⟨5, 25, false, rfl, by decide +kernel, rfl⟩, .inl ⟨by decide, 1, 2, [5, 3], [14, 13, 12, 11, 10, 9, 8], by decide +kernel, by decide +kernel, ?_⟩⟩
            intro s_ a' w' hlo hhi hsl hk hd hT
            have e4 : a'.eval (.tmp 4) = .pointer (some ⟨R, 0, none⟩) := hk.at 4 (by decide +kernel)
            simp only [execOp, e4]
            rfl
          · -- 9: Op.nilCheck (Operand.tmp 28)
            refine ⟨.inr ⟨5, 25, false, rfl, by decide +kernel, rfl⟩, .inl ⟨by decide, 1, 2, [5, 3], [14, 13, 12, 11, 10, 9], by decide +kernel, by decide +kernel, ?_⟩⟩
            intro s_ a' w' hlo hhi hsl hk hd hT
            have e28 : a'.eval (.tmp 28) = .pointer (some ⟨R, 0, none⟩) := hd 8 28 (by decide +kernel)
            clear hd hk hT
            simp only [execOp, e28]
            go_simp
          · -- 10: Op.fieldAddr 30 (Operand.tmp 29) 1
            refine ⟨.inr ⟨5, 25, false, rfl, by decide +kernel, rfl⟩, .inl ⟨by decide, 1, 2, [5, 3], [14, 13, 12, 11, 10], by decide +kernel, by decide +kernel, ?_⟩⟩
            intro s_ a' w' hlo hhi hsl hk hd hT
            have e29 : a'.eval (.tmp 29) = .pointer (some ⟨R, 0, none⟩) := hd 9 29 (by decide +kernel)
            clear hd hk hT
            simp only [execOp, e29]
            go_simp
          · -- 11: Op.load 3 (Operand.tmp 30)
            refine ⟨.inr ⟨5, 25, false, rfl, by decide +kernel, rfl⟩, .inl ⟨by decide, 1, 2, [5, 3], [14, 13, 12, 11], by decide +kernel, by decide +kernel, ?_⟩⟩
            intro s_ a' w' hlo hhi hsl hk hd hT
            have e30 : a'.eval (.tmp 30) = .pointer (some ⟨R, 1, none⟩) := hd 10 30 (by decide +kernel)
            have cc := hT.last hlo
            clear hd hk
            simp only [execOp, e30]
            go_simp
          · -- 12: Op.binOp BinOp.neq 3 (Operand.tmp 27) (Operand.tmp 31) 3
            refine ⟨.inr ⟨5, 25, false, rfl, by decide +kernel, rfl⟩, .inl ⟨by decide, 2, 2, [7], [14, 13, 12], by decide +kernel, by decide +kernel, ?_⟩⟩
            intro s_ a' w' hlo hhi hsl hk hd hT
            have e27 : a'.eval (.tmp 27) = .int .i64 s1.last := hd 7 27 (by decide +kernel)
            have e31 : a'.eval (.tmp 31) = .int .i64 s1.last := hd 11 31 (by decide +kernel)
            clear hd hk hT
            simp only [execOp, e27, e31]
            go_simp
          · -- 13: Op.pick (Operand.tmp 25) (Operand.const (Value.bool true)) (
            refine ⟨.inl rfl, .inl ⟨by decide, 2, 2, [12, 7], [14, 13], by decide +kernel, by decide +kernel, ?_⟩⟩
            intro s_ a' w' hlo hhi hsl hk hd hT
            have e25 : a'.eval (.tmp 25) = .bool false := hd 5 25 (by decide +kernel)
            have e32 : a'.eval (.tmp 32) = .bool false := hd 12 32 (by decide +kernel)
            clear hd hk hT
            simp only [execOp, e25, e32]
            go_simp
          · -- 14: Op.move (Operand.tmp 33)
            refine ⟨.inl rfl, .inl ⟨by decide, 2, 2, [7], [14], by decide +kernel, by decide +kernel, ?_⟩⟩
            intro s_ a' w' hlo hhi hsl hk hd hT
            have e33 : a'.eval (.tmp 33) = .bool false := hd 13 33 (by decide +kernel)
            simp only [execOp, e33]
            rfl
          · -- 15: Op.move (Operand.tmp 3)
            refine ⟨.inr ⟨14, 34, false, rfl, by decide +kernel, rfl⟩, .inl ⟨by decide, 2, 2, [14, 7], [15], by decide +kernel, by decide +kernel, ?_⟩⟩
            intro s_ a' w' hlo hhi hsl hk hd hT
            have e3 : a'.eval (.tmp 3) = .pointer (some ⟨D, 0, none⟩) := hk.at 3 (by decide +kernel)
            simp only [execOp, e3]
            rfl
          · -- 16: Op.call ( callee := Callee.value (Operand.func 14), args := 
            refine ⟨.inr ⟨14, 34, false, rfl, by decide +kernel, rfl⟩, .inr ⟨2, rfl, ?_⟩⟩
            intro a' w' hk hd hT
            have e35 : a'.eval (.tmp 35) = .pointer (some ⟨D, 0, none⟩) := hd 15 35 (by decide +kernel)
            refine wp_call_at 14 _ _ (run_enter 14 _ _ rfl (by kernel_rfl)) ?_
            simp only [List.map_toArray, List.map_nil, List.map_cons, e35]
            have hL : LR2 w2 w' D R (2 * i + 2) s1 s1 (fun b => b = E) := hT.1
            refine (hL.ls.floorB).mono ?_
            rintro e_ w3 ⟨he, hb⟩
            exact ⟨he, hT.on hb⟩
          · -- 17: Op.move (Operand.tmp 4)
            refine ⟨.inr ⟨14, 34, false, rfl, by decide +kernel, rfl⟩, .inl ⟨by decide, 2, 3, [14, 7], [23, 22, 21, 20, 19, 18, 17], by decide +kernel, by decide +kernel, ?_⟩⟩
            intro s_ a' w' hlo hhi hsl hk hd hT
            have e4 : a'.eval (.tmp 4) = .pointer (some ⟨R, 0, none⟩) := hk.at 4 (by decide +kernel)
            simp only [execOp, e4]
            rfl
          · -- 18: Op.nilCheck (Operand.tmp 37)
            refine ⟨.inr ⟨14, 34, false, rfl, by decide +kernel, rfl⟩, .inl ⟨by decide, 2, 3, [14, 7], [23, 22, 21, 20, 19, 18], by decide +kernel, by decide +kernel, ?_⟩⟩
            intro s_ a' w' hlo hhi hsl hk hd hT
            have e37 : a'.eval (.tmp 37) = .pointer (some ⟨R, 0, none⟩) := hd 17 37 (by decide +kernel)
            clear hd hk hT
            simp only [execOp, e37]
            go_simp
          · -- 19: Op.fieldAddr 30 (Operand.tmp 38) 2
            refine ⟨.inr ⟨14, 34, false, rfl, by decide +kernel, rfl⟩, .inl ⟨by decide, 2, 3, [14, 7], [23, 22, 21, 20, 19], by decide +kernel, by decide +kernel, ?_⟩⟩
            intro s_ a' w' hlo hhi hsl hk hd hT
            have e38 : a'.eval (.tmp 38) = .pointer (some ⟨R, 0, none⟩) := hd 18 38 (by decide +kernel)
            clear hd hk hT
            simp only [execOp, e38]
            go_simp
          · -- 20: Op.load 3 (Operand.tmp 39)
            refine ⟨.inr ⟨14, 34, false, rfl, by decide +kernel, rfl⟩, .inl ⟨by decide, 2, 3, [14, 7], [23, 22, 21, 20], by decide +kernel, by decide +kernel, ?_⟩⟩
            intro s_ a' w' hlo hhi hsl hk hd hT
            have e39 : a'.eval (.tmp 39) = .pointer (some ⟨R, 2, none⟩) := hd 19 39 (by decide +kernel)
            have cc := hT.floor (by omega)
            clear hd hk
            simp only [execOp, e39]
            go_simp
          · -- 21: Op.binOp BinOp.neq 3 (Operand.tmp 36) (Operand.tmp 40) 3
            refine ⟨.inr ⟨14, 34, false, rfl, by decide +kernel, rfl⟩, .inl ⟨by decide, 3, 3, [16], [23, 22, 21], by decide +kernel, by decide +kernel, ?_⟩⟩
            intro s_ a' w' hlo hhi hsl hk hd hT
            have e36 : a'.eval (.tmp 36) = .int .i64 s1.floor := hd 16 36 (by decide +kernel)
            have e40 : a'.eval (.tmp 40) = .int .i64 s1.floor := hd 20 40 (by decide +kernel)
            clear hd hk hT
            simp only [execOp, e36, e40]
            go_simp
          · -- 22: Op.pick (Operand.tmp 34) (Operand.const (Value.bool true)) (
            refine ⟨.inl rfl, .inl ⟨by decide, 3, 3, [21, 16], [23, 22], by decide +kernel, by decide +kernel, ?_⟩⟩
            intro s_ a' w' hlo hhi hsl hk hd hT
            have e34 : a'.eval (.tmp 34) = .bool false := hd 14 34 (by decide +kernel)
            have e41 : a'.eval (.tmp 41) = .bool false := hd 21 41 (by decide +kernel)
            clear hd hk hT
            simp only [execOp, e34, e41]
            go_simp
          · -- 23: Op.move (Operand.tmp 42)
            refine ⟨.inl rfl, .inl ⟨by decide, 3, 3, [16], [23], by decide +kernel, by decide +kernel, ?_⟩⟩
            intro s_ a' w' hlo hhi hsl hk hd hT
            have e42 : a'.eval (.tmp 42) = .bool false := hd 22 42 (by decide +kernel)
            simp only [execOp, e42]
            rfl
          · -- 24: Op.move (Operand.tmp 3)
            refine ⟨.inr ⟨23, 43, false, rfl, by decide +kernel, rfl⟩, .inl ⟨by decide, 3, 3, [23, 16], [24], by decide +kernel, by decide +kernel, ?_⟩⟩
            intro s_ a' w' hlo hhi hsl hk hd hT
            have e3 : a'.eval (.tmp 3) = .pointer (some ⟨D, 0, none⟩) := hk.at 3 (by decide +kernel)
            simp only [execOp, e3]
            rfl
          · -- 25: Op.call ( callee := Callee.value (Operand.func 15), args := 
            refine ⟨.inr ⟨23, 43, false, rfl, by decide +kernel, rfl⟩, .inr ⟨3, rfl, ?_⟩⟩
            intro a' w' hk hd hT
            have e44 : a'.eval (.tmp 44) = .pointer (some ⟨D, 0, none⟩) := hd 24 44 (by decide +kernel)
            refine wp_call_at 15 _ _ (run_enter 15 _ _ rfl (by kernel_rfl)) ?_
            simp only [List.map_toArray, List.map_nil, List.map_cons, e44]
            have hL : LR2 w2 w' D R (2 * i + 2) s1 s1 (fun b => b = E) := hT.1
            refine (hL.versions (by omega) HV.out).mono ?_
            rintro e_ w3 ⟨he, hb⟩
            exact ⟨he, hT.on hb⟩
          · -- 26: Op.move (Operand.tmp 4)
            refine ⟨.inr ⟨23, 43, false, rfl, by decide +kernel, rfl⟩, .inl ⟨by decide, 3, 4, [23, 16], [26], by decide +kernel, by decide +kernel, ?_⟩⟩
            intro s_ a' w' hlo hhi hsl hk hd hT
            have e4 : a'.eval (.tmp 4) = .pointer (some ⟨R, 0, none⟩) := hk.at 4 (by decide +kernel)
            simp only [execOp, e4]
            rfl
          · -- 27: Op.call ( callee := Callee.value (Operand.func 16), args := 
            refine ⟨.inr ⟨23, 43, false, rfl, by decide +kernel, rfl⟩, .inr ⟨4, rfl, ?_⟩⟩
            intro a' w' hk hd hT
            have e46 : a'.eval (.tmp 46) = .pointer (some ⟨R, 0, none⟩) := hd 26 46 (by decide +kernel)
            refine wp_call_at 16 _ _ (run_enter 16 _ _ rfl (by kernel_rfl)) ?_
            simp only [List.map_toArray, List.map_nil, List.map_cons, e46]
            have hL : LR2 w2 w' D R (2 * i + 2) s1 s1 (fun b => b = E) := hT.1
            refine (hL.vversions (by omega) HV.out).mono ?_
            rintro e_ w3 ⟨he, hb⟩
            exact ⟨he, hT.on hb⟩
          · -- 28: Op.binOp BinOp.neq 3 (Operand.tmp 45) (Operand.tmp 47) 3
            refine ⟨.inr ⟨23, 43, false, rfl, by decide +kernel, rfl⟩, .inl ⟨by decide, 5, 5, [27], [30, 29, 28], by decide +kernel, by decide +kernel, ?_⟩⟩
            intro s_ a' w' hlo hhi hsl hk hd hT
            have e45 : a'.eval (.tmp 45) = .int .i64 (V : Int) := hd 25 45 (by decide +kernel)
            have e47 : a'.eval (.tmp 47) = .int .i64 (V : Int) := hd 27 47 (by decide +kernel)
            clear hd hk hT
            simp only [execOp, e45, e47]
            go_simp
          · -- 29: Op.pick (Operand.tmp 43) (Operand.const (Value.bool true)) (
            refine ⟨.inl rfl, .inl ⟨by decide, 5, 5, [28, 27], [30, 29], by decide +kernel, by decide +kernel, ?_⟩⟩
            intro s_ a' w' hlo hhi hsl hk hd hT
            have e43 : a'.eval (.tmp 43) = .bool false := hd 23 43 (by decide +kernel)
            have e48 : a'.eval (.tmp 48) = .bool false := hd 28 48 (by decide +kernel)
            clear hd hk hT
            simp only [execOp, e43, e48]
            go_simp
          · -- 30: Op.move (Operand.tmp 49)
            refine ⟨.inl rfl, .inl ⟨by decide, 5, 5, [27], [30], by decide +kernel, by decide +kernel, ?_⟩⟩
            intro s_ a' w' hlo hhi hsl hk hd hT
            have e49 : a'.eval (.tmp 49) = .bool false := hd 29 49 (by decide +kernel)
            simp only [execOp, e49]
            rfl
          · -- 31: Op.move (Operand.tmp 3)
            refine ⟨.inr ⟨30, 50, false, rfl, by decide +kernel, rfl⟩, .inl ⟨by decide, 5, 5, [30, 27], [31], by decide +kernel, by decide +kernel, ?_⟩⟩
            intro s_ a' w' hlo hhi hsl hk hd hT
            have e3 : a'.eval (.tmp 3) = .pointer (some ⟨D, 0, none⟩) := hk.at 3 (by decide +kernel)
            simp only [execOp, e3]
            rfl
          · -- 32: Op.fieldAddr 33 (Operand.tmp 6) 4
            refine ⟨.inr ⟨30, 50, false, rfl, by decide +kernel, rfl⟩, .inl ⟨by decide, 5, 5, [30, 27], [33, 32], by decide +kernel, by decide +kernel, ?_⟩⟩
            intro s_ a' w' hlo hhi hsl hk hd hT
            have e6 : a'.eval (.tmp 6) = .pointer (some ⟨E, 0, none⟩) := hk.at 6 (by decide +kernel)
            clear hd hk hT
            simp only [execOp, e6]
            go_simp
          · -- 33: Op.load 9 (Operand.tmp 52)
            refine ⟨.inr ⟨30, 50, false, rfl, by decide +kernel, rfl⟩, .inl ⟨by decide, 5, 5, [30, 27], [33], by decide +kernel, by decide +kernel, ?_⟩⟩
            intro s_ a' w' hlo hhi hsl hk hd hT
            have e52 : a'.eval (.tmp 52) = .pointer (some ⟨E, 4, none⟩) := hd 32 52 (by decide +kernel)
            have cc : w'.cell? ⟨E, 4, none⟩ = some (.string fr) := hT.2.cell (j := 4) rfl
            clear hd hk
            simp only [execOp, e52]
            go_simp
          · -- 34: Op.fieldAddr 33 (Operand.tmp 6) 1
            refine ⟨.inr ⟨30, 50, false, rfl, by decide +kernel, rfl⟩, .inl ⟨by decide, 5, 5, [30, 27], [35, 34], by decide +kernel, by decide +kernel, ?_⟩⟩
            intro s_ a' w' hlo hhi hsl hk hd hT
            have e6 : a'.eval (.tmp 6) = .pointer (some ⟨E, 0, none⟩) := hk.at 6 (by decide +kernel)
            clear hd hk hT
            simp only [execOp, e6]
            go_simp
          · -- 35: Op.load 3 (Operand.tmp 54)
            refine ⟨.inr ⟨30, 50, false, rfl, by decide +kernel, rfl⟩, .inl ⟨by decide, 5, 5, [30, 27], [35], by decide +kernel, by decide +kernel, ?_⟩⟩
            intro s_ a' w' hlo hhi hsl hk hd hT
            have e54 : a'.eval (.tmp 54) = .pointer (some ⟨E, 1, none⟩) := hd 34 54 (by decide +kernel)
            have cc : w'.cell? ⟨E, 1, none⟩ = some (.int .i64 xn) := hT.2.cell (j := 1) rfl
            clear hd hk
            simp only [execOp, e54]
            go_simp
          · -- 36: Op.call ( callee := Callee.value (Operand.func 17), args := 
            refine ⟨.inr ⟨30, 50, false, rfl, by decide +kernel, rfl⟩, .inr ⟨5, rfl, ?_⟩⟩
            intro a' w' hk hd hT
            have e51 : a'.eval (.tmp 51) = .pointer (some ⟨D, 0, none⟩) := hd 31 51 (by decide +kernel)
            have e53 : a'.eval (.tmp 53) = .string fr := hd 33 53 (by decide +kernel)
            have e55 : a'.eval (.tmp 55) = .int .i64 xn := hd 35 55 (by decide +kernel)
            refine wp_call_at 17 _ _ (run_enter 17 _ _ rfl (by kernel_rfl)) ?_
            simp only [List.map_toArray, List.map_nil, List.map_cons, e51, e53, e55]
            have hL : LR2 w2 w' D R (2 * i + 2) s1 s1 (fun b => b = E) := hT.1
            refine (hL.wrote (by omega) HB1.out hfr).mono ?_
            rintro e_ w3 ⟨he, hb⟩
            exact ⟨he, hT.on hb⟩
          · -- 37: Op.move (Operand.tmp 4)
            refine ⟨.inr ⟨30, 50, false, rfl, by decide +kernel, rfl⟩, .inl ⟨by decide, 5, 6, [30, 27], [37], by decide +kernel, by decide +kernel, ?_⟩⟩
            intro s_ a' w' hlo hhi hsl hk hd hT
            have e4 : a'.eval (.tmp 4) = .pointer (some ⟨R, 0, none⟩) := hk.at 4 (by decide +kernel)
            simp only [execOp, e4]
            rfl
          · -- 38: Op.fieldAddr 33 (Operand.tmp 6) 4
            refine ⟨.inr ⟨30, 50, false, rfl, by decide +kernel, rfl⟩, .inl ⟨by decide, 5, 6, [30, 27], [39, 38], by decide +kernel, by decide +kernel, ?_⟩⟩
            intro s_ a' w' hlo hhi hsl hk hd hT
            have e6 : a'.eval (.tmp 6) = .pointer (some ⟨E, 0, none⟩) := hk.at 6 (by decide +kernel)
            clear hd hk hT
            simp only [execOp, e6]
            go_simp
          · -- 39: Op.load 9 (Operand.tmp 58)
            refine ⟨.inr ⟨30, 50, false, rfl, by decide +kernel, rfl⟩, .inl ⟨by decide, 5, 6, [30, 27], [39], by decide +kernel, by decide +kernel, ?_⟩⟩
            intro s_ a' w' hlo hhi hsl hk hd hT
            have e58 : a'.eval (.tmp 58) = .pointer (some ⟨E, 4, none⟩) := hd 38 58 (by decide +kernel)
            have cc : w'.cell? ⟨E, 4, none⟩ = some (.string fr) := hT.2.cell (j := 4) rfl
            clear hd hk
            simp only [execOp, e58]
            go_simp
          · -- 40: Op.fieldAddr 33 (Operand.tmp 6) 1
            refine ⟨.inr ⟨30, 50, false, rfl, by decide +kernel, rfl⟩, .inl ⟨by decide, 5, 6, [30, 27], [41, 40], by decide +kernel, by decide +kernel, ?_⟩⟩
            intro s_ a' w' hlo hhi hsl hk hd hT
            have e6 : a'.eval (.tmp 6) = .pointer (some ⟨E, 0, none⟩) := hk.at 6 (by decide +kernel)
            clear hd hk hT
            simp only [execOp, e6]
            go_simp
          · -- 41: Op.load 3 (Operand.tmp 60)
            refine ⟨.inr ⟨30, 50, false, rfl, by decide +kernel, rfl⟩, .inl ⟨by decide, 5, 6, [30, 27], [41], by decide +kernel, by decide +kernel, ?_⟩⟩
            intro s_ a' w' hlo hhi hsl hk hd hT
            have e60 : a'.eval (.tmp 60) = .pointer (some ⟨E, 1, none⟩) := hd 40 60 (by decide +kernel)
            have cc : w'.cell? ⟨E, 1, none⟩ = some (.int .i64 xn) := hT.2.cell (j := 1) rfl
            clear hd hk
            simp only [execOp, e60]
            go_simp
          · -- 42: Op.call ( callee := Callee.value (Operand.func 18), args := 
            refine ⟨.inr ⟨30, 50, false, rfl, by decide +kernel, rfl⟩, .inr ⟨6, rfl, ?_⟩⟩
            intro a' w' hk hd hT
            have e57 : a'.eval (.tmp 57) = .pointer (some ⟨R, 0, none⟩) := hd 37 57 (by decide +kernel)
            have e59 : a'.eval (.tmp 59) = .string fr := hd 39 59 (by decide +kernel)
            have e61 : a'.eval (.tmp 61) = .int .i64 xn := hd 41 61 (by decide +kernel)
            refine wp_call_at 18 _ _ (run_enter 18 _ _ rfl (by kernel_rfl)) ?_
            simp only [List.map_toArray, List.map_nil, List.map_cons, e57, e59, e61]
            have hL : LR2 w2 w' D R (2 * i + 2) s1 s1 (fun b => b = E) := hT.1
            refine (hL.vwrote HB1.out hfr).mono ?_
            rintro e_ w3 ⟨he, hb⟩
            exact ⟨he, hT.on hb⟩
          · -- 43: Op.binOp BinOp.neq 4 (Operand.tmp 56) (Operand.tmp 62) 4
            refine ⟨.inr ⟨30, 50, false, rfl, by decide +kernel, rfl⟩, .inl ⟨by decide, 7, 7, [42], [45, 44, 43], by decide +kernel, by decide +kernel, ?_⟩⟩
            intro s_ a' w' hlo hhi hsl hk hd hT
            have e56 : a'.eval (.tmp 56) = .bool b1 := hd 36 56 (by decide +kernel)
            have e62 : a'.eval (.tmp 62) = .bool b1 := hd 42 62 (by decide +kernel)
            clear hd hk hT
            simp only [execOp, e56, e62]
            go_simp
          · -- 44: Op.pick (Operand.tmp 50) (Operand.const (Value.bool true)) (
            refine ⟨.inl rfl, .inl ⟨by decide, 7, 7, [43, 42], [45, 44], by decide +kernel, by decide +kernel, ?_⟩⟩
            intro s_ a' w' hlo hhi hsl hk hd hT
            have e50 : a'.eval (.tmp 50) = .bool false := hd 30 50 (by decide +kernel)
            have e63 : a'.eval (.tmp 63) = .bool false := hd 43 63 (by decide +kernel)
            clear hd hk hT
            simp only [execOp, e50, e63]
            go_simp
          · -- 45: Op.move (Operand.tmp 64)
            refine ⟨.inl rfl, .inl ⟨by decide, 7, 7, [42], [45], by decide +kernel, by decide +kernel, ?_⟩⟩
            intro s_ a' w' hlo hhi hsl hk hd hT
            have e64 : a'.eval (.tmp 64) = .bool false := hd 44 64 (by decide +kernel)
            simp only [execOp, e64]
            rfl
          · -- 46: Op.move (Operand.tmp 3)
            refine ⟨.inr ⟨45, 65, false, rfl, by decide +kernel, rfl⟩, .inl ⟨by decide, 7, 7, [45, 42], [46], by decide +kernel, by decide +kernel, ?_⟩⟩
            intro s_ a' w' hlo hhi hsl hk hd hT
            have e3 : a'.eval (.tmp 3) = .pointer (some ⟨D, 0, none⟩) := hk.at 3 (by decide +kernel)
            simp only [execOp, e3]
            rfl
          · -- 47: Op.fieldAddr 33 (Operand.tmp 6) 4
            refine ⟨.inr ⟨45, 65, false, rfl, by decide +kernel, rfl⟩, .inl ⟨by decide, 7, 7, [45, 42], [48, 47], by decide +kernel, by decide +kernel, ?_⟩⟩
            intro s_ a' w' hlo hhi hsl hk hd hT
            have e6 : a'.eval (.tmp 6) = .pointer (some ⟨E, 0, none⟩) := hk.at 6 (by decide +kernel)
            clear hd hk hT
            simp only [execOp, e6]
            go_simp
          · -- 48: Op.load 9 (Operand.tmp 67)
            refine ⟨.inr ⟨45, 65, false, rfl, by decide +kernel, rfl⟩, .inl ⟨by decide, 7, 7, [45, 42], [48], by decide +kernel, by decide +kernel, ?_⟩⟩
            intro s_ a' w' hlo hhi hsl hk hd hT
            have e67 : a'.eval (.tmp 67) = .pointer (some ⟨E, 4, none⟩) := hd 47 67 (by decide +kernel)
            have cc : w'.cell? ⟨E, 4, none⟩ = some (.string fr) := hT.2.cell (j := 4) rfl
            clear hd hk
            simp only [execOp, e67]
            go_simp
          · -- 49: Op.fieldAddr 33 (Operand.tmp 6) 5
            refine ⟨.inr ⟨45, 65, false, rfl, by decide +kernel, rfl⟩, .inl ⟨by decide, 7, 7, [45, 42], [50, 49], by decide +kernel, by decide +kernel, ?_⟩⟩
            intro s_ a' w' hlo hhi hsl hk hd hT
            have e6 : a'.eval (.tmp 6) = .pointer (some ⟨E, 0, none⟩) := hk.at 6 (by decide +kernel)
            clear hd hk hT
            simp only [execOp, e6]
            go_simp
          · -- 50: Op.load 9 (Operand.tmp 69)
            refine ⟨.inr ⟨45, 65, false, rfl, by decide +kernel, rfl⟩, .inl ⟨by decide, 7, 7, [45, 42], [50], by decide +kernel, by decide +kernel, ?_⟩⟩
            intro s_ a' w' hlo hhi hsl hk hd hT
            have e69 : a'.eval (.tmp 69) = .pointer (some ⟨E, 5, none⟩) := hd 49 69 (by decide +kernel)
            have cc : w'.cell? ⟨E, 5, none⟩ = some (.string tt) := hT.2.cell (j := 5) rfl
            clear hd hk
            simp only [execOp, e69]
            go_simp
          · -- 51: Op.fieldAddr 33 (Operand.tmp 6) 1
            refine ⟨.inr ⟨45, 65, false, rfl, by decide +kernel, rfl⟩, .inl ⟨by decide, 7, 7, [45, 42], [52, 51], by decide +kernel, by decide +kernel, ?_⟩⟩
            intro s_ a' w' hlo hhi hsl hk hd hT
            have e6 : a'.eval (.tmp 6) = .pointer (some ⟨E, 0, none⟩) := hk.at 6 (by decide +kernel)
            clear hd hk hT
            simp only [execOp, e6]
            go_simp
          · -- 52: Op.load 3 (Operand.tmp 71)
            refine ⟨.inr ⟨45, 65, false, rfl, by decide +kernel, rfl⟩, .inl ⟨by decide, 7, 7, [45, 42], [52], by decide +kernel, by decide +kernel, ?_⟩⟩
            intro s_ a' w' hlo hhi hsl hk hd hT
            have e71 : a'.eval (.tmp 71) = .pointer (some ⟨E, 1, none⟩) := hd 51 71 (by decide +kernel)
            have cc : w'.cell? ⟨E, 1, none⟩ = some (.int .i64 xn) := hT.2.cell (j := 1) rfl
            clear hd hk
            simp only [execOp, e71]
            go_simp
          · -- 53: Op.call ( callee := Callee.value (Operand.func 19), args := 
            refine ⟨.inr ⟨45, 65, false, rfl, by decide +kernel, rfl⟩, .inr ⟨7, rfl, ?_⟩⟩
            intro a' w' hk hd hT
            have e66 : a'.eval (.tmp 66) = .pointer (some ⟨D, 0, none⟩) := hd 46 66 (by decide +kernel)
            have e68 : a'.eval (.tmp 68) = .string fr := hd 48 68 (by decide +kernel)
            have e70 : a'.eval (.tmp 70) = .string tt := hd 50 70 (by decide +kernel)
            have e72 : a'.eval (.tmp 72) = .int .i64 xn := hd 52 72 (by decide +kernel)
            refine wp_call_at 19 _ _ (run_enter 19 _ _ rfl (by kernel_rfl)) ?_
            simp only [List.map_toArray, List.map_nil, List.map_cons, e66, e68, e70, e72]
            have hL : LR2 w2 w' D R (2 * i + 2) s1 s1 (fun b => b = E) := hT.1
            refine (hL.within (by omega) HB2.out).mono ?_
            rintro e_ w3 ⟨he, hb⟩
            exact ⟨he, hT.on hb⟩
          · -- 54: Op.move (Operand.tmp 4)
            refine ⟨.inr ⟨45, 65, false, rfl, by decide +kernel, rfl⟩, .inl ⟨by decide, 7, 8, [45, 42], [54], by decide +kernel, by decide +kernel, ?_⟩⟩
            intro s_ a' w' hlo hhi hsl hk hd hT
            have e4 : a'.eval (.tmp 4) = .pointer (some ⟨R, 0, none⟩) := hk.at 4 (by decide +kernel)
            simp only [execOp, e4]
            rfl
          · -- 55: Op.fieldAddr 33 (Operand.tmp 6) 4
            refine ⟨.inr ⟨45, 65, false, rfl, by decide +kernel, rfl⟩, .inl ⟨by decide, 7, 8, [45, 42], [56, 55], by decide +kernel, by decide +kernel, ?_⟩⟩
            intro s_ a' w' hlo hhi hsl hk hd hT
            have e6 : a'.eval (.tmp 6) = .pointer (some ⟨E, 0, none⟩) := hk.at 6 (by decide +kernel)
            clear hd hk hT
            simp only [execOp, e6]
            go_simp
          · -- 56: Op.load 9 (Operand.tmp 75)
            refine ⟨.inr ⟨45, 65, false, rfl, by decide +kernel, rfl⟩, .inl ⟨by decide, 7, 8, [45, 42], [56], by decide +kernel, by decide +kernel, ?_⟩⟩
            intro s_ a' w' hlo hhi hsl hk hd hT
            have e75 : a'.eval (.tmp 75) = .pointer (some ⟨E, 4, none⟩) := hd 55 75 (by decide +kernel)
            have cc : w'.cell? ⟨E, 4, none⟩ = some (.string fr) := hT.2.cell (j := 4) rfl
            clear hd hk
            simp only [execOp, e75]
            go_simp
          · -- 57: Op.fieldAddr 33 (Operand.tmp 6) 5
            refine ⟨.inr ⟨45, 65, false, rfl, by decide +kernel, rfl⟩, .inl ⟨by decide, 7, 8, [45, 42], [58, 57], by decide +kernel, by decide +kernel, ?_⟩⟩
            intro s_ a' w' hlo hhi hsl hk hd hT
            have e6 : a'.eval (.tmp 6) = .pointer (some ⟨E, 0, none⟩) := hk.at 6 (by decide +kernel)
            clear hd hk hT
            simp only [execOp, e6]
            go_simp
          · -- 58: Op.load 9 (Operand.tmp 77)
            refine ⟨.inr ⟨45, 65, false, rfl, by decide +kernel, rfl⟩, .inl ⟨by decide, 7, 8, [45, 42], [58], by decide +kernel, by decide +kernel, ?_⟩⟩
            intro s_ a' w' hlo hhi hsl hk hd hT
            have e77 : a'.eval (.tmp 77) = .pointer (some ⟨E, 5, none⟩) := hd 57 77 (by decide +kernel)
            have cc : w'.cell? ⟨E, 5, none⟩ = some (.string tt) := hT.2.cell (j := 5) rfl
            clear hd hk
            simp only [execOp, e77]
            go_simp
          · -- 59: Op.fieldAddr 33 (Operand.tmp 6) 1
            refine ⟨.inr ⟨45, 65, false, rfl, by decide +kernel, rfl⟩, .inl ⟨by decide, 7, 8, [45, 42], [60, 59], by decide +kernel, by decide +kernel, ?_⟩⟩
            intro s_ a' w' hlo hhi hsl hk hd hT
            have e6 : a'.eval (.tmp 6) = .pointer (some ⟨E, 0, none⟩) := hk.at 6 (by decide +kernel)
            clear hd hk hT
            simp only [execOp, e6]
            go_simp
          · -- 60: Op.load 3 (Operand.tmp 79)
            refine ⟨.inr ⟨45, 65, false, rfl, by decide +kernel, rfl⟩, .inl ⟨by decide, 7, 8, [45, 42], [60], by decide +kernel, by decide +kernel, ?_⟩⟩
            intro s_ a' w' hlo hhi hsl hk hd hT
            have e79 : a'.eval (.tmp 79) = .pointer (some ⟨E, 1, none⟩) := hd 59 79 (by decide +kernel)
            have cc : w'.cell? ⟨E, 1, none⟩ = some (.int .i64 xn) := hT.2.cell (j := 1) rfl
            clear hd hk
            simp only [execOp, e79]
            go_simp
          · -- 61: Op.call ( callee := Callee.value (Operand.func 20), args := 
            refine ⟨.inr ⟨45, 65, false, rfl, by decide +kernel, rfl⟩, .inr ⟨8, rfl, ?_⟩⟩
            intro a' w' hk hd hT
            have e74 : a'.eval (.tmp 74) = .pointer (some ⟨R, 0, none⟩) := hd 54 74 (by decide +kernel)
            have e76 : a'.eval (.tmp 76) = .string fr := hd 56 76 (by decide +kernel)
            have e78 : a'.eval (.tmp 78) = .string tt := hd 58 78 (by decide +kernel)
            have e80 : a'.eval (.tmp 80) = .int .i64 xn := hd 60 80 (by decide +kernel)
            refine wp_call_at 20 _ _ (run_enter 20 _ _ rfl (by kernel_rfl)) ?_
            simp only [List.map_toArray, List.map_nil, List.map_cons, e74, e76, e78, e80]
            have hL : LR2 w2 w' D R (2 * i + 2) s1 s1 (fun b => b = E) := hT.1
            refine (hL.vwithin HB2.out).mono ?_
            rintro e_ w3 ⟨he, hb⟩
            exact ⟨he, hT.on hb⟩
          · -- 62: Op.binOp BinOp.neq 4 (Operand.tmp 73) (Operand.tmp 81) 4
            refine ⟨.inr ⟨45, 65, false, rfl, by decide +kernel, rfl⟩, .inl ⟨by decide, 9, 9, [61], [64, 63, 62], by decide +kernel, by decide +kernel, ?_⟩⟩
            intro s_ a' w' hlo hhi hsl hk hd hT
            have e73 : a'.eval (.tmp 73) = .bool b2 := hd 53 73 (by decide +kernel)
            have e81 : a'.eval (.tmp 81) = .bool b2 := hd 61 81 (by decide +kernel)
            clear hd hk hT
            simp only [execOp, e73, e81]
            go_simp
          · -- 63: Op.pick (Operand.tmp 65) (Operand.const (Value.bool true)) (
            refine ⟨.inl rfl, .inl ⟨by decide, 9, 9, [62, 61], [64, 63], by decide +kernel, by decide +kernel, ?_⟩⟩
            intro s_ a' w' hlo hhi hsl hk hd hT
            have e65 : a'.eval (.tmp 65) = .bool false := hd 45 65 (by decide +kernel)
            have e82 : a'.eval (.tmp 82) = .bool false := hd 62 82 (by decide +kernel)
            clear hd hk hT
            simp only [execOp, e65, e82]
            go_simp
          · -- 64: Op.move (Operand.tmp 83)
            refine ⟨.inl rfl, .inl ⟨by decide, 9, 9, [61], [64], by decide +kernel, by decide +kernel, ?_⟩⟩
            intro s_ a' w' hlo hhi hsl hk hd hT
            have e83 : a'.eval (.tmp 83) = .bool false := hd 63 83 (by decide +kernel)
            simp only [execOp, e83]
            rfl
          · -- 65: Op.fieldAddr 33 (Operand.tmp 6) 3
            refine ⟨.inr ⟨64, 84, false, rfl, by decide +kernel, rfl⟩, .inl ⟨by decide, 9, 9, [64, 61], [66, 65], by decide +kernel, by decide +kernel, ?_⟩⟩
            intro s_ a' w' hlo hhi hsl hk hd hT
            have e6 : a'.eval (.tmp 6) = .pointer (some ⟨E, 0, none⟩) := hk.at 6 (by decide +kernel)
            clear hd hk hT
            simp only [execOp, e6]
            go_simp
          · -- 66: Op.load 31 (Operand.tmp 85)
            refine ⟨.inr ⟨64, 84, false, rfl, by decide +kernel, rfl⟩, .inl ⟨by decide, 9, 9, [64, 61], [66], by decide +kernel, by decide +kernel, ?_⟩⟩
            intro s_ a' w' hlo hhi hsl hk hd hT
            have e85 : a'.eval (.tmp 85) = .pointer (some ⟨E, 3, none⟩) := hd 65 85 (by decide +kernel)
            have cc : w'.cell? ⟨E, 3, none⟩ = some (.slice ad ln cpa) := hT.2.cell (j := 3) rfl
            clear hd hk
            simp only [execOp, e85]
            go_simp
          · -- 67: Op.call ( callee := Callee.value (Operand.func 21), args := 
            refine ⟨.inr ⟨64, 84, false, rfl, by decide +kernel, rfl⟩, .inr ⟨9, rfl, ?_⟩⟩
            intro a' w' hk hd hT
            have e86 : a'.eval (.tmp 86) = .slice ad ln cpa := hd 66 86 (by decide +kernel)
            refine wp_call_at 21 _ _ (run_enter 21 _ _ rfl (by kernel_rfl)) ?_
            simp only [List.map_toArray, List.map_nil, List.map_cons, e86]
            have hL : LR2 w2 w' D R (2 * i + 2) s1 s1 (fun b => b = E) := hT.1
            refine (HB3.out ▸ sGood_any (HA.out.r.kept hL.lo)).mono ?_
            rintro e_ w3 ⟨he, hb⟩
            exact ⟨he, hT.on hb⟩
          · -- 68: Op.fieldAddr 33 (Operand.tmp 6) 3
            refine ⟨.inr ⟨64, 84, false, rfl, by decide +kernel, rfl⟩, .inl ⟨by decide, 9, 10, [64, 61], [69, 68], by decide +kernel, by decide +kernel, ?_⟩⟩
            intro s_ a' w' hlo hhi hsl hk hd hT
            have e6 : a'.eval (.tmp 6) = .pointer (some ⟨E, 0, none⟩) := hk.at 6 (by decide +kernel)
            clear hd hk hT
            simp only [execOp, e6]
            go_simp
          · -- 69: Op.load 31 (Operand.tmp 88)
            refine ⟨.inr ⟨64, 84, false, rfl, by decide +kernel, rfl⟩, .inl ⟨by decide, 9, 10, [64, 61], [69], by decide +kernel, by decide +kernel, ?_⟩⟩
            intro s_ a' w' hlo hhi hsl hk hd hT
            have e88 : a'.eval (.tmp 88) = .pointer (some ⟨E, 3, none⟩) := hd 68 88 (by decide +kernel)
            have cc : w'.cell? ⟨E, 3, none⟩ = some (.slice ad ln cpa) := hT.2.cell (j := 3) rfl
            clear hd hk
            simp only [execOp, e88]
            go_simp
          · -- 70: Op.call ( callee := Callee.value (Operand.func 22), args := 
            refine ⟨.inr ⟨64, 84, false, rfl, by decide +kernel, rfl⟩, .inr ⟨10, rfl, ?_⟩⟩
            intro a' w' hk hd hT
            have e89 : a'.eval (.tmp 89) = .slice ad ln cpa := hd 69 89 (by decide +kernel)
            refine wp_call_at 22 _ _ (run_enter 22 _ _ rfl (by kernel_rfl)) ?_
            simp only [List.map_toArray, List.map_nil, List.map_cons, e89]
            have hL : LR2 w2 w' D R (2 * i + 2) s1 s1 (fun b => b = E) := hT.1
            refine (HB3.out ▸ vGood_any (HA.out.r.kept hL.lo)).mono ?_
            rintro e_ w3 ⟨he, hb⟩
            exact ⟨he, hT.on hb⟩
          · -- 71: Op.binOp BinOp.neq 4 (Operand.tmp 87) (Operand.tmp 90) 4
            refine ⟨.inr ⟨64, 84, false, rfl, by decide +kernel, rfl⟩, .inl ⟨by decide, 11, 11, [70], [], by decide +kernel, by decide +kernel, ?_⟩⟩
            intro s_ a' w' hlo hhi hsl hk hd hT
            have e87 : a'.eval (.tmp 87) = .bool b3 := hd 67 87 (by decide +kernel)
            have e90 : a'.eval (.tmp 90) = .bool b3 := hd 70 90 (by decide +kernel)
            clear hd hk hT
            simp only [execOp, e87, e90]
            go_simp
          · -- 72: Op.pick (Operand.tmp 84) (Operand.const (Value.bool true)) (
            refine ⟨.inl rfl, .inl ⟨by decide, 11, 11, [71, 70], [], by decide +kernel, by decide +kernel, ?_⟩⟩
            intro s_ a' w' hlo hhi hsl hk hd hT
            have e84 : a'.eval (.tmp 84) = .bool false := hd 64 84 (by decide +kernel)
            have e91 : a'.eval (.tmp 91) = .bool false := hd 71 91 (by decide +kernel)
            clear hd hk hT
            simp only [execOp, e84, e91]
            go_simp
        · intro a' w9 hsz hdf hk hall hT
          have e20 : a'.eval (.tmp 20) = .pointer (some ⟨D, 0, none⟩) := hall 0 _ 20 rfl rfl
          have e21 : a'.eval (.tmp 21) = .pointer (some ⟨R, 0, none⟩) := hall 1 _ 21 rfl rfl
          have e22 : a'.eval (.tmp 22) = .agg (AC ⟨kd, xn, xm, ad, ln, cpa, pl, fr, tt⟩).toArray := hall 2 _ 22 rfl rfl
          have e23 : a'.eval (.tmp 23) = .bool true := hall 3 _ 23 rfl rfl
          have e24 : a'.eval (.tmp 24) = .bool false := hall 4 _ 24 rfl rfl
          have e25 : a'.eval (.tmp 25) = .bool false := hall 5 _ 25 rfl rfl
          have e26 : a'.eval (.tmp 26) = .pointer (some ⟨D, 0, none⟩) := hall 6 _ 26 rfl rfl
          have e27 : a'.eval (.tmp 27) = .int .i64 s1.last := hall 7 _ 27 rfl rfl
          have e28 : a'.eval (.tmp 28) = .pointer (some ⟨R, 0, none⟩) := hall 8 _ 28 rfl rfl
          have e29 : a'.eval (.tmp 29) = .pointer (some ⟨R, 0, none⟩) := hall 9 _ 29 rfl rfl
          have e30 : a'.eval (.tmp 30) = .pointer (some ⟨R, 1, none⟩) := hall 10 _ 30 rfl rfl
          have e31 : a'.eval (.tmp 31) = .int .i64 s1.last := hall 11 _ 31 rfl rfl
          have e32 : a'.eval (.tmp 32) = .bool false := hall 12 _ 32 rfl rfl
          have e33 : a'.eval (.tmp 33) = .bool false := hall 13 _ 33 rfl rfl
          have e34 : a'.eval (.tmp 34) = .bool false := hall 14 _ 34 rfl rfl
          have e35 : a'.eval (.tmp 35) = .pointer (some ⟨D, 0, none⟩) := hall 15 _ 35 rfl rfl
          have e36 : a'.eval (.tmp 36) = .int .i64 s1.floor := hall 16 _ 36 rfl rfl
          have e37 : a'.eval (.tmp 37) = .pointer (some ⟨R, 0, none⟩) := hall 17 _ 37 rfl rfl
          have e38 : a'.eval (.tmp 38) = .pointer (some ⟨R, 0, none⟩) := hall 18 _ 38 rfl rfl
          have e39 : a'.eval (.tmp 39) = .pointer (some ⟨R, 2, none⟩) := hall 19 _ 39 rfl rfl
          have e40 : a'.eval (.tmp 40) = .int .i64 s1.floor := hall 20 _ 40 rfl rfl
          have e41 : a'.eval (.tmp 41) = .bool false := hall 21 _ 41 rfl rfl
          have e42 : a'.eval (.tmp 42) = .bool false := hall 22 _ 42 rfl rfl
          have e43 : a'.eval (.tmp 43) = .bool false := hall 23 _ 43 rfl rfl
          have e44 : a'.eval (.tmp 44) = .pointer (some ⟨D, 0, none⟩) := hall 24 _ 44 rfl rfl
          have e45 : a'.eval (.tmp 45) = .int .i64 (V : Int) := hall 25 _ 45 rfl rfl
          have e46 : a'.eval (.tmp 46) = .pointer (some ⟨R, 0, none⟩) := hall 26 _ 46 rfl rfl
          have e47 : a'.eval (.tmp 47) = .int .i64 (V : Int) := hall 27 _ 47 rfl rfl
          have e48 : a'.eval (.tmp 48) = .bool false := hall 28 _ 48 rfl rfl
          have e49 : a'.eval (.tmp 49) = .bool false := hall 29 _ 49 rfl rfl
          have e50 : a'.eval (.tmp 50) = .bool false := hall 30 _ 50 rfl rfl
          have e51 : a'.eval (.tmp 51) = .pointer (some ⟨D, 0, none⟩) := hall 31 _ 51 rfl rfl
          have e52 : a'.eval (.tmp 52) = .pointer (some ⟨E, 4, none⟩) := hall 32 _ 52 rfl rfl
          have e53 : a'.eval (.tmp 53) = .string fr := hall 33 _ 53 rfl rfl
          have e54 : a'.eval (.tmp 54) = .pointer (some ⟨E, 1, none⟩) := hall 34 _ 54 rfl rfl
          have e55 : a'.eval (.tmp 55) = .int .i64 xn := hall 35 _ 55 rfl rfl
          have e56 : a'.eval (.tmp 56) = .bool b1 := hall 36 _ 56 rfl rfl
          have e57 : a'.eval (.tmp 57) = .pointer (some ⟨R, 0, none⟩) := hall 37 _ 57 rfl rfl
          have e58 : a'.eval (.tmp 58) = .pointer (some ⟨E, 4, none⟩) := hall 38 _ 58 rfl rfl
          have e59 : a'.eval (.tmp 59) = .string fr := hall 39 _ 59 rfl rfl
          have e60 : a'.eval (.tmp 60) = .pointer (some ⟨E, 1, none⟩) := hall 40 _ 60 rfl rfl
          have e61 : a'.eval (.tmp 61) = .int .i64 xn := hall 41 _ 61 rfl rfl
          have e62 : a'.eval (.tmp 62) = .bool b1 := hall 42 _ 62 rfl rfl
          have e63 : a'.eval (.tmp 63) = .bool false := hall 43 _ 63 rfl rfl
          have e64 : a'.eval (.tmp 64) = .bool false := hall 44 _ 64 rfl rfl
          have e65 : a'.eval (.tmp 65) = .bool false := hall 45 _ 65 rfl rfl
          have e66 : a'.eval (.tmp 66) = .pointer (some ⟨D, 0, none⟩) := hall 46 _ 66 rfl rfl
          have e67 : a'.eval (.tmp 67) = .pointer (some ⟨E, 4, none⟩) := hall 47 _ 67 rfl rfl
          have e68 : a'.eval (.tmp 68) = .string fr := hall 48 _ 68 rfl rfl
          have e69 : a'.eval (.tmp 69) = .pointer (some ⟨E, 5, none⟩) := hall 49 _ 69 rfl rfl
          have e70 : a'.eval (.tmp 70) = .string tt := hall 50 _ 70 rfl rfl
          have e71 : a'.eval (.tmp 71) = .pointer (some ⟨E, 1, none⟩) := hall 51 _ 71 rfl rfl
          have e72 : a'.eval (.tmp 72) = .int .i64 xn := hall 52 _ 72 rfl rfl
          have e73 : a'.eval (.tmp 73) = .bool b2 := hall 53 _ 73 rfl rfl
          have e74 : a'.eval (.tmp 74) = .pointer (some ⟨R, 0, none⟩) := hall 54 _ 74 rfl rfl
          have e75 : a'.eval (.tmp 75) = .pointer (some ⟨E, 4, none⟩) := hall 55 _ 75 rfl rfl
          have e76 : a'.eval (.tmp 76) = .string fr := hall 56 _ 76 rfl rfl
          have e77 : a'.eval (.tmp 77) = .pointer (some ⟨E, 5, none⟩) := hall 57 _ 77 rfl rfl
          have e78 : a'.eval (.tmp 78) = .string tt := hall 58 _ 78 rfl rfl
          have e79 : a'.eval (.tmp 79) = .pointer (some ⟨E, 1, none⟩) := hall 59 _ 79 rfl rfl
          have e80 : a'.eval (.tmp 80) = .int .i64 xn := hall 60 _ 80 rfl rfl
          have e81 : a'.eval (.tmp 81) = .bool b2 := hall 61 _ 81 rfl rfl
          have e82 : a'.eval (.tmp 82) = .bool false := hall 62 _ 82 rfl rfl
          have e83 : a'.eval (.tmp 83) = .bool false := hall 63 _ 83 rfl rfl
          have e84 : a'.eval (.tmp 84) = .bool false := hall 64 _ 84 rfl rfl
          have e85 : a'.eval (.tmp 85) = .pointer (some ⟨E, 3, none⟩) := hall 65 _ 85 rfl rfl
          have e86 : a'.eval (.tmp 86) = .slice ad ln cpa := hall 66 _ 86 rfl rfl
          have e87 : a'.eval (.tmp 87) = .bool b3 := hall 67 _ 87 rfl rfl
          have e88 : a'.eval (.tmp 88) = .pointer (some ⟨E, 3, none⟩) := hall 68 _ 88 rfl rfl
          have e89 : a'.eval (.tmp 89) = .slice ad ln cpa := hall 69 _ 89 rfl rfl
          have e90 : a'.eval (.tmp 90) = .bool b3 := hall 70 _ 90 rfl rfl
          have e91 : a'.eval (.tmp 91) = .bool false := hall 71 _ 91 rfl rfl
          have e92 : a'.eval (.tmp 92) = .bool false := hall 72 _ 92 rfl rfl
          have ha := act_puts 95 rfl hsz hdf hk [20, 21, 22, 23, 24, 25, 26, 27, 28, 29, 30, 31, 32, 33, 34, 35, 36, 37, 38, 39, 40, 41, 42, 43, 44, 45, 46, 47, 48, 49, 50, 51, 52, 53, 54, 55, 56, 57, 58, 59, 60, 61, 62, 63, 64, 65, 66, 67, 68, 69, 70, 71, 72, 73, 74, 75, 76, 77, 78, 79, 80, 81, 82, 83, 84, 85, 86, 87, 88, 89, 90, 91, 92] (by decide +kernel)
          simp only [puts, List.foldl_cons, List.foldl_nil, e20, e21, e22, e23, e24, e25, e26, e27, e28, e29, e30, e31, e32, e33, e34, e35, e36, e37, e38, e39, e40, e41, e42, e43, e44, e45, e46, e47, e48, e49, e50, e51, e52, e53, e54, e55, e56, e57, e58, e59, e60, e61, e62, e63, e64, e65, e66, e67, e68, e69, e70, e71, e72, e73, e74, e75, e76, e77, e78, e79, e80, e81, e82, e83, e84, e85, e86, e87, e88, e89, e90, e91, e92] at ha
          simp only [Act.put, List.setIfInBounds_toArray, List.set_cons_succ, List.set_cons_zero] at ha
          clear hall hk hsz hdf e20 e21 e22 e23 e24 e25 e26 e27 e28 e29 e30 e31 e32 e33 e34 e35 e36 e37 e38 e39 e40 e41 e42 e43 e44 e45 e46 e47 e48 e49 e50 e51 e52 e53 e54 e55 e56 e57 e58 e59 e60 e61 e62 e63 e64 e65 e66 e67 e68 e69 e70 e71 e72 e73 e74 e75 e76 e77 e78 e79 e80 e81 e82 e83 e84 e85 e86 e87 e88 e89 e90 e91 e92
          subst ha
          have S9 : Hid (LR2 w2 w9 D R (2 * (i + 1)) s1 s1 (fun _ => False)) := (show LR2 _ _ _ _ _ _ _ _ from (LR2.mono hT.1 (by omega)).less (fun _ h => h.elim))
          clear hT
          go_wp2_with fail
          go_roundg (gk - 1)
          case measure => omega
          case rel => exact ⟨i + 1, s1, by omega, by go_num, S9⟩
      · obtain rfl : i = m := by omega
        have q2 : ¬ (i : Int) < (i : Int) := by omega
        have L9 := hide (L2.out.trans (SR.out.lo.mono L2.out.size))
        go_wp2_with fail
        refine (lives_any wr).mono ?_
        rintro e wz ⟨rfl, hbz⟩
        have LZ : Hid (Below w.heap.size w wz) := (L9.out).trans (hbz.mono (L9.out).size)
        clear hbz
        go_wp2_with fail
        go_ret
        exact ⟨rfl, LZ.out⟩
#print axioms storeActs_any
end Go.Proofs.Ytgaoionnfkbhaaa
