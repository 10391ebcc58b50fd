/-
  BufferLast: what the call does.
-/
import Derived.Test.YtfjlkncliljjnaaBfZ
import Derived.Test.YtfjlkncliljjnaaBfI
namespace Go.Proofs.Ytfjlkncliljjnaa
open Go.RowKit
theorem eq_pair (x y : Pr) (W : World) : (binOp .eql 38 (.agg (PC x).toArray) (.agg (PC y).toArray)).run Try.prog W = .ok (.bool (decide (x = y))) W := by
  have u4 := Try.underlying4
  have u9 := Try.underlying9
  obtain ⟨a, s, d⟩ := x
  obtain ⟨a', s', d'⟩ := y
  rw [run_eql_struct, run_equalIn_agg W 9999 38 _ _ (by kernel_rfl) (by kernel_rfl)]
  simp [Program.fieldsOf, Try.underlying38, Op.eqFields, PC, go_sem, part, u4, u9, ba_inj]
  by_cases h1 : a = a' <;> by_cases h2 : s = s' <;> by_cases h3 : d = d' <;> simp [h1, h2, h3]
/-- A string stored into one cell of a block. -/
theorem wp_store_s1 {w : World} {o : Oper} {a : Act} {K : Act → World → Prop} {Q : Exit → Act → World → Prop} (x y : Operand) (ho : o.op = .store 9 x y) (b j : Nat) (T : TypeId) (cs : List Value) (u : Value) (c : ByteArray)
    (hx : a.eval x = .pointer (some ⟨b, j, none⟩)) (hy : a.eval y = .string c) (hB : Blk w b T cs) (hu : cs[j]? = some u) (h : ∀ w', Blk w' b T (cs.set j (.string c)) → But b w w' → K (a.put o.dst undef) w') : o.wp Try.prog a w K Q := by
  have hc := hB.cell (j := j) (v := u) hu
  have hf := hB.frozen j
  have hrun : (execOp a.eval o).run Try.prog w = .ok .skip (w.setCell ⟨b, j, none⟩ (.string c)) := by
    simp only [execOp, ho, hx, hy]
    go_simp
  unfold Oper.wp
  rw [hrun]
  exact h _ (hB.set j (.string c)) (But.setCell b w j _)
theorem wpList_store_s1 {w : World} {ops : Array Oper} {rest : List Oper} {o : Oper} {a : Act} {Q : Exit → Act → World → Prop} (hgd : o.guard = none) (x y : Operand) (ho : o.op = .store 9 x y) (b j : Nat) (T : TypeId) (cs : List Value) (u : Value) (c : ByteArray)
    (hx : a.eval x = .pointer (some ⟨b, j, none⟩)) (hy : a.eval y = .string c) (hB : Blk w b T cs) (hu : cs[j]? = some u) (h : ∀ w', Blk w' b T (cs.set j (.string c)) → But b w w' → wpList Try.prog ops Q rest (a.put o.dst undef) w') : wpList Try.prog ops Q (o :: rest) a w :=
  wpList_plain hgd fun _ hK => wp_store_s1 x y ho b j T cs u c hx hy hB hu (fun w' h1 h2 => hK _ _ (h w' h1 h2))
theorem actP_key (a : Pr) : (actP a).1 = a.1 := by unfold actP; split <;> rfl
theorem wrB_same {L : List Pr} {p : Pr} (h : wrE L p ≠ 0) : wrB L p = L := by unfold wrB; rw [if_neg h]
theorem wrB_get {L : List Pr} {p : Pr} (hs : Bs L) (h : wrE L p = 0) (k : ByteArray) : getB (wrB L p) k = if p.1 = k then some p else getB L k := by unfold wrB; rw [if_pos h, insB_get hs]
theorem run_step {A : List Pr} {i : Nat} (hi : i < A.length) : runB (A.take (i + 1)) = wrB (runB (A.take i)) (actP A[i]) := by rw [List.take_succ_eq_append_getElem hi, runB_snoc]
set_option maxHeartbeats 8000000 in
set_option maxRecDepth 100000 in
theorem bufferLast_any {w : World} {va : Value} {A : List Pr} (ha : RdG PE w va A) (oa : ∀ x ∈ A, PrOk x) (key : ByteArray) (hkey : key.size ≤ maxLen) :
    Calls Try.prog 5 #[va, .string key] w fun e w' => e = .returned (.bool true) ∧ Below w.heap.size w w' := by
  have za := Zact
  have zp' := Zpair
  have CLi := light_any ha (RdG_nil w) oa (by simp)
  have HA := hide ha
  have OA := hide oa
  obtain ⟨a, c, rfl⟩ := ha.slice
  have hm := Nat.le_trans ha.cap ha.max
  obtain ⟨n, HN⟩ : ∃ n, Hid (A.length = n) := ⟨_, rfl⟩
  obtain ⟨N, HNw⟩ : ∃ N, Hid (w.heap.size = N) := ⟨_, rfl⟩
  obtain ⟨ks, HKS⟩ : ∃ k, Hid (key.size = k) := ⟨_, rfl⟩
  have HKM := hide hkey
  have lk := len_run key ks HKS.out
  rw [HN.out] at HA hm CLi ⊢
  rw [HNw.out] at CLi ⊢
  have HLI := hide CLi
  clear ha oa CLi hkey
  go_enter Try.func5, Try.ntmps5
  go_wp2_with fail
  refine HLI.out.mono ?_
  rintro e w1 ⟨b, rfl, hb1, hb2⟩
  have L1 : Hid (Below N w w1) := (show _ from hb1)
  have CLV := hide (lives_any w1)
  clear HLI hb1
  have leave : ∀ w2, Below w1.heap.size w1 w2 → Below N w w2 := fun w2 h => L1.out.trans (h.mono (by have := L1.out.size; have := HNw.out; omega))
  have LV := hide leave
  clear leave
  cases b with
  | false =>
    go_wp2_with fail
    refine CLV.out.mono ?_
    rintro e w2 ⟨rfl, hb2⟩
    have HB := hide hb2
    clear hb2
    go_wp2_with fail
    go_ret
    exact ⟨rfl, LV.out _ HB.out⟩
  | true =>
    by_cases h300 : 300 < ks
    · have q0 : decide (300 < (ks : Int)) = true := by simp; omega
      go_wp2_with fail
      refine CLV.out.mono ?_
      rintro e w2 ⟨rfl, hb2⟩
      have HB := hide hb2
      clear hb2
      go_wp2_with fail
      go_ret
      exact ⟨rfl, LV.out _ HB.out⟩
    · have q0 : decide (300 < (ks : Int)) = false := by simp; omega
      have CN := hide (bNew_any w1)
      clear CLV hb2
      go_wp2_with fail
      refine CN.out.mono ?_
      rintro e w2 ⟨D, M, rfl, h2, hD, hM, hb2⟩
      obtain ⟨E, HE⟩ : ∃ E, Hid (w2.heap.size = E) := ⟨_, rfl⟩
      obtain ⟨w3, hw3⟩ : ∃ y, y = w2.alloc (.cells #[.string ⟨#[]⟩, .string ⟨#[]⟩, .bool false] 38 (0, 0)) := ⟨_, rfl⟩
      obtain ⟨B3, hb3⟩ := room_pair HE hw3
      have H3 := hide (h2.kept hb3)
      have HB3 := hide B3
      have L3 : Hid (Below N w w3) := (show _ from (LV.out _ hb2).trans (hb3.mono (by have := (LV.out _ hb2).size; have := HNw.out; omega)))
      have HAP : Hid (D < E ∧ M < E ∧ N ≤ D ∧ N ≤ M ∧ N ≤ E) := (show D < E ∧ M < E ∧ N ≤ D ∧ N ≤ M ∧ N ≤ E from by
        have h0 := L1.out.size
        have h1 := HNw.out
        have h3 := h2.d.lt
        have h4 := h2.mp.lt
        have h5 := HE.out
        omega)
      have HW3 := hide hw3
      clear h2 hD hM hb2 hb3 B3 hw3 CN
      go_wp2_with fail
      try rw [HE.out]
      go_loopg [7, 26] (n + 1) (fun g x z wr => ∃ (i : Nat) (hs : Bool), i ≤ n ∧ g + i = n + 1 ∧ x = .bool hs ∧ z = .int .i64 (i : Int) ∧ Hid (hs = (getB (runB (A.take i)) key).isSome) ∧ Hid (BAt wr D M (runB (A.take i))) ∧ Hid (Blk wr E 38 (PC ((getB (runB (A.take i)) key).getD zp))) ∧ Hid (Below N w wr))
      case atStart =>
        have e3 := HW3.out
        subst e3
        exact ⟨0, false, Nat.zero_le _, by omega, rfl, rfl, rfl, H3, HB3, L3⟩
      case round =>
        obtain ⟨i, hs, hi, hg, rfl, rfl, HS, HB, HLB, BL⟩ := hrel
        clear H3 HB3 L3 HW3
        by_cases hlt : i < n
        · have hlt' : (i : Int) < (n : Int) := by omega
          have hlt2 : i < A.length := by rw [HN.out]; exact hlt
          have bw : Below w.heap.size w wr := BL.out.mono (Nat.le_of_eq HNw.out)
          obtain ⟨bb, off, rfl, hb1, hx⟩ := (HA.out.kept bw).nth (by omega)
          have hrow : wr.rangeAt bb (off + i * 3) (PC A[i]) := hx i hlt2
          have hok := OA.out A[i] (List.getElem_mem hlt2)
          obtain ⟨p, HP⟩ : ∃ p, Hid (A[i] = p) := ⟨A[i], (show A[i] = A[i] from rfl)⟩
          rw [HP.out] at hrow hok
          have HOK := hide hok
          obtain ⟨L, HL⟩ : ∃ L, Hid (runB (A.take i) = L) := ⟨_, rfl⟩
          rw [HL.out] at HS HB HLB
          have HSrt := hide HB.out.srt
          obtain ⟨w3, hw3⟩ : ∃ y, y = wr.alloc (.cells (PC p).toArray 32 (0, 0)) := ⟨_, rfl⟩
          obtain ⟨E3, HE3⟩ : ∃ E, Hid (wr.heap.size = E) := ⟨_, rfl⟩
          have B3 : Blk w3 E3 32 (PC p) := by rw [hw3, ← HE3.out]; exact Blk.new wr 32 (PC p)
          have hb3 : Below wr.heap.size wr w3 := by rw [hw3]; exact (Below.refl _ _).alloc (Nat.le_refl _) _
          have L3 : Hid (Below N w w3) := (show _ from BL.out.trans (hb3.mono (by have := BL.out.size; have := HNw.out; omega)))
          have HLB3 := hide (HLB.out.kept hb3)
          have HB3 := hide (HB.out.kept hb3)
          have CW := hide (writes_any HB3.out)
          have HBk3 := hide B3
          have HAE : Hid (D < E3 ∧ M < E3 ∧ E < E3) := (show D < E3 ∧ M < E3 ∧ E < E3 from by
            have h3 := HB.out.d.lt
            have h4 := HB.out.mp.lt
            have h5 := HLB.out.lt
            have h6 := HE3.out
            omega)
          have HW3 := hide hw3
          clear hx hb3 hw3 bw B3 hok HB HLB
          go_wp2_with (first
            | (refine wpList_load_mid rfl 32 _ rfl bb (off + i * 3) rfl (PC p) _ hrow Try.underlying32 rfl Try.size32 ?_)
            | (refine wpList_store_new rfl 32 _ _ rfl wr _ (PC p).toArray _ rfl rfl rfl Try.size32 rfl (all_one (PC_one p)) ?_; rw [← HW3.out, HE3.out])
            | fail)
          refine CW.out.mono ?_
          rintro e w4 ⟨v4, rfl, o4, hb4⟩
          have HB4 := hide (HB3.out.kept hb4)
          have HLB4 := hide (HLB3.out.kept hb4)
          have HBk4 := hide (HBk3.out.kept hb4)
          have L4 : Hid (Below N w w4) := (show _ from L3.out.trans (hb4.mono (by have := L3.out.size; have := HNw.out; omega)))
          have HO4 := hide o4
          obtain ⟨a4, c4, rfl⟩ := o4.form
          have CD := hide (do_any HB4.out p (by have := HOK.out.1; unfold maxLen; omega))
          have hrow4 := HBk4.out.range0
          clear o4 hb4 HB3 HLB3 HBk3 L3 CW hrow
          go_wp2_with (first
            | (refine wpList_load_mid rfl 32 _ rfl E3 0 rfl (PC p) _ hrow4 Try.underlying32 rfl Try.size32 ?_)
            | fail)
          refine CD.out.mono ?_
          rintro e w5 ⟨rfl, h5, hc5⟩
          have HB5 := hide h5
          have HLB5 := hide (HLB4.out.chg hc5 (fun e => by have := HAP.out; omega))
          have HBk5 := hide (HBk4.out.chg hc5 (fun e => by have := HAE.out; omega))
          have L5 : Hid (Below N w w5) := (show _ from L4.out.trans (hc5.below (by have := L4.out.size; have := HNw.out; omega) (fun k hk e => by have := HAP.out; omega)))
          have HO5 := hide (HO4.out.chg hc5 (fun b hb e => (HB4.out.apart HO4.out hb).2 e)).rd
          clear h5 hc5 HB4 HLB4 HBk4 L4 CD HO4 hrow4
          obtain ⟨r, HR⟩ : ∃ r, Hid (wrE L (actP p) = r) := ⟨_, rfl⟩
          rw [HR.out]
          have hk5 := HBk5.out.key
          have hv5 := HBk5.out.val
          have hd5 := HBk5.out.dead
          by_cases hr0 : r = 0
          · subst hr0
            have hG := fun (hs : Bs L) => wrB_get hs HR.out key
            rw [actP_key] at hG
            have HG := hide (hG HSrt.out)
            clear hG
            by_cases hkk : p.1 = key
            · have q1 : (p.1.toList == key.toList) = true := by rw [hkk]; simp
              have HG2 : Hid (getB (wrB L (actP p)) key = some (actP p)) := (show _ = _ by rw [HG.out, if_pos hkk])
              cases hdd : p.2.2 with
              | true =>
                rw [hdd] at hd5
                have HAC : Hid (actP p = (key, em, true)) := (show _ = _ by unfold actP; rw [hdd]; simp [hkk])
                go_wp2_with (first
                  | (refine wpList_store_blk rfl 38 _ _ rfl E _ (PC (key, p.2.1, true)) 38 rfl rfl HLB5.out rfl Try.size38 (PC_one _) ?_; intro w6 B6 U6; have hd6 := (HBk5.out.but U6 (fun e => by have := HAE.out; omega)).dead; rw [hdd] at hd6)
                  | (refine wpList_store_s1 rfl _ _ rfl E 1 38 (PC (key, p.2.1, true)) _ ⟨#[]⟩ rfl rfl B6 rfl ?_; intro w7 B7 U7)
                  | fail)
                have UC := ((Chg.of_but (F := fun x => x = E) U6 rfl).trans (Chg.of_but U7 rfl))
                have HB7 := hide (HB5.out.chg UC (fun e => by have := HAP.out; omega) (fun e => by have := HAP.out; omega))
                have L7 : Hid (Below N w w7) := (show _ from L5.out.trans (UC.below (by have := L5.out.size; have := HNw.out; omega) (fun k hk e => by have := HAP.out; omega)))
                have HLB7 : Hid (Blk w7 E 38 (PC ((getB (wrB L (actP p)) key).getD zp))) := (show Blk _ _ _ _ by rw [HG2.out, HAC.out]; exact B7)
                clear UC
                obtain ⟨K, HK⟩ : ∃ K, Hid ((wrB L (actP p)).length = K) := ⟨_, rfl⟩
                have CLn := bLen_any HB7.out
                rw [HK.out] at CLn
                have HCL := hide CLn
                clear CLn
                have hK : K ≤ 64 := by rw [← HK.out]; exact HB7.out.len
                have q64 : decide (64 < (K : Int)) = false := by simp; omega
                have HX : Hid ((getB (wrB L (actP p)) key).isSome = true) := (show _ = _ by rw [HG2.out]; rfl)
                refine HCL.out.mono ?_
                rintro e w_ ⟨rfl, hw⟩
                subst w_
                go_wp2_with fail
                go_roundg (n - i)
                case measure => omega
                case rel => exact ⟨i + 1, true, by omega, by omega, rfl, by go_num, (show _ = _ by rw [run_step hlt2, HL.out, HP.out]; exact HX.out.symm), (show BAt _ _ _ _ by rw [run_step hlt2, HL.out, HP.out]; exact HB7.out), (show Blk _ _ _ _ by rw [run_step hlt2, HL.out, HP.out]; exact HLB7.out), L7⟩
              | false =>
                rw [hdd] at hd5
                have HAC : Hid (actP p = (key, p.2.1, false)) := (show _ = _ by unfold actP; rw [hdd]; simp [hkk])
                go_wp2_with (first
                  | (refine wpList_store_blk rfl 38 _ _ rfl E _ (PC (key, p.2.1, false)) 38 rfl rfl HLB5.out rfl Try.size38 (PC_one _) ?_; intro w6 B6 U6; have hd6 := (HBk5.out.but U6 (fun e => by have := HAE.out; omega)).dead; rw [hdd] at hd6)
                  | fail)
                have UC := (Chg.of_but (F := fun x => x = E) U6 rfl)
                have HB7 := hide (HB5.out.chg UC (fun e => by have := HAP.out; omega) (fun e => by have := HAP.out; omega))
                have L7 : Hid (Below N w w6) := (show _ from L5.out.trans (UC.below (by have := L5.out.size; have := HNw.out; omega) (fun k hk e => by have := HAP.out; omega)))
                have HLB7 : Hid (Blk w6 E 38 (PC ((getB (wrB L (actP p)) key).getD zp))) := (show Blk _ _ _ _ by rw [HG2.out, HAC.out]; exact B6)
                clear UC
                obtain ⟨K, HK⟩ : ∃ K, Hid ((wrB L (actP p)).length = K) := ⟨_, rfl⟩
                have CLn := bLen_any HB7.out
                rw [HK.out] at CLn
                have HCL := hide CLn
                clear CLn
                have hK : K ≤ 64 := by rw [← HK.out]; exact HB7.out.len
                have q64 : decide (64 < (K : Int)) = false := by simp; omega
                have HX : Hid ((getB (wrB L (actP p)) key).isSome = true) := (show _ = _ by rw [HG2.out]; rfl)
                refine HCL.out.mono ?_
                rintro e w_ ⟨rfl, hw⟩
                subst w_
                go_wp2_with fail
                go_roundg (n - i)
                case measure => omega
                case rel => exact ⟨i + 1, true, by omega, by omega, rfl, by go_num, (show _ = _ by rw [run_step hlt2, HL.out, HP.out]; exact HX.out.symm), (show BAt _ _ _ _ by rw [run_step hlt2, HL.out, HP.out]; exact HB7.out), (show Blk _ _ _ _ by rw [run_step hlt2, HL.out, HP.out]; exact HLB7.out), L7⟩
            · have q1 : (p.1.toList == key.toList) = false := by rw [beq_eq_false_iff_ne]; exact fun e => hkk (ba_inj.1 e)
              have HG2 : Hid (getB (wrB L (actP p)) key = getB L key) := (show _ = _ by rw [HG.out, if_neg hkk])
              have HLB6 : Hid (Blk w5 E 38 (PC ((getB (wrB L (actP p)) key).getD zp))) := (show Blk _ _ _ _ by rw [HG2.out]; exact HLB5.out)
              go_wp2_with fail
              obtain ⟨K, HK⟩ : ∃ K, Hid ((wrB L (actP p)).length = K) := ⟨_, rfl⟩
              have CLn := bLen_any HB5.out
              rw [HK.out] at CLn
              have HCL := hide CLn
              clear CLn
              have hK : K ≤ 64 := by rw [← HK.out]; exact HB5.out.len
              have q64 : decide (64 < (K : Int)) = false := by simp; omega
              have HX : Hid ((getB (wrB L (actP p)) key).isSome = hs) := (show _ = _ by rw [HG2.out]; exact HS.out.symm)
              go_wp2_with fail
              refine HCL.out.mono ?_
              rintro e w_ ⟨rfl, hw⟩
              subst w_
              go_wp2_with fail
              go_roundg (n - i)
              case measure => omega
              case rel => exact ⟨i + 1, hs, by omega, by omega, rfl, by go_num, (show _ = _ by rw [run_step hlt2, HL.out, HP.out]; exact HX.out.symm), (show BAt _ _ _ _ by rw [run_step hlt2, HL.out, HP.out]; exact HB5.out), (show Blk _ _ _ _ by rw [run_step hlt2, HL.out, HP.out]; exact HLB6.out), L5⟩
          · have q1 : (r != 0) = true := by simpa using hr0
            have q2 : (r == 0) = false := by simpa using hr0
            have HWS : Hid (wrB L (actP p) = L) := (show _ = _ from wrB_same (by rw [HR.out]; exact hr0))
            have HB6 : Hid (BAt w5 D M L) := (show BAt _ _ _ _ by have := HB5.out; rwa [HWS.out] at this)
            have CW2 := hide (writes_any HB6.out)
            go_wp2_with fail
            refine CW2.out.mono ?_
            rintro e w6 ⟨v6, rfl, o6, hb6⟩
            have CS := vsame_any (HO5.out.kept hb6) o6.rd
            rw [decide_eq_true rfl] at CS
            have HCS := hide CS
            have L6 : Hid (Below N w w6) := (show _ from L5.out.trans (hb6.mono (by have := L5.out.size; have := HNw.out; omega)))
            have HB7 := hide (HB5.out.kept hb6)
            have HLB7 := hide (HLB5.out.kept hb6)
            obtain ⟨a6, c6, rfl⟩ := o6.form
            clear CS CW2 o6 hb6
            go_wp2_with fail
            refine HCS.out.mono ?_
            rintro e w7 ⟨rfl, hb7⟩
            have L7 : Hid (Below N w w7) := (show _ from L6.out.trans (hb7.mono (by have := L6.out.size; have := HNw.out; omega)))
            have HB8 := hide (HB7.out.kept hb7)
            have HLB8 : Hid (Blk w7 E 38 (PC ((getB (wrB L (actP p)) key).getD zp))) := (show Blk _ _ _ _ by rw [HWS.out]; exact HLB7.out.kept hb7)
            clear hb7
            obtain ⟨K, HK⟩ : ∃ K, Hid ((wrB L (actP p)).length = K) := ⟨_, rfl⟩
            have CLn := bLen_any HB8.out
            rw [HK.out] at CLn
            have HCL := hide CLn
            clear CLn
            have hK : K ≤ 64 := by rw [← HK.out]; exact HB8.out.len
            have q64 : decide (64 < (K : Int)) = false := by simp; omega
            have HX : Hid ((getB (wrB L (actP p)) key).isSome = hs) := (show _ = _ by rw [HWS.out]; exact HS.out.symm)
            go_wp2_with fail
            refine HCL.out.mono ?_
            rintro e w_ ⟨rfl, hw⟩
            subst w_
            go_wp2_with fail
            go_roundg (n - i)
            case measure => omega
            case rel => exact ⟨i + 1, hs, by omega, by omega, rfl, by go_num, (show _ = _ by rw [run_step hlt2, HL.out, HP.out]; exact HX.out.symm), (show BAt _ _ _ _ by rw [run_step hlt2, HL.out, HP.out]; exact HB8.out), (show Blk _ _ _ _ by rw [run_step hlt2, HL.out, HP.out]; exact HLB8.out), L7⟩
        · obtain rfl : i = n := by omega
          have hlt' : ¬ (i : Int) < (i : Int) := by omega
          have CG := bGet_any HB.out key HKM.out
          obtain ⟨q, HQ⟩ : ∃ q, Hid ((getB (runB (A.take i)) key).getD zp = q) := ⟨_, rfl⟩
          rw [HQ.out] at CG HLB
          rw [← HS.out] at CG
          have HCG := hide CG
          have hqq := eq_pair q q
          rw [decide_eq_true rfl] at hqq
          have hss : (hs == hs) = true := by simp
          clear CG
          go_wp2_with fail
          refine HCG.out.mono ?_
          rintro e w4 ⟨rfl, hb4⟩
          obtain ⟨E4, HE4⟩ : ∃ E, Hid (w4.heap.size = E) := ⟨_, rfl⟩
          obtain ⟨w5, hw5⟩ : ∃ y, y = w4.alloc (.cells (PC q).toArray 38 (0, 0)) := ⟨_, rfl⟩
          have B5 : Blk w5 E4 38 (PC q) := by rw [hw5, ← HE4.out]; exact Blk.new w4 38 (PC q)
          have hb5 : Below w4.heap.size w4 w5 := by rw [hw5]; exact (Below.refl _ _).alloc (Nat.le_refl _) _
          have L5 : Hid (Below N w w5) := (show _ from (BL.out.trans (hb4.mono (by have := BL.out.size; have := HNw.out; omega))).trans (hb5.mono (by have := BL.out.size; have := HNw.out; have := hb4.size; omega)))
          have r1 := B5.range0
          have r2 := ((HLB.out.kept hb4).kept hb5).range0
          have CE := hide (lives_any w5)
          have HW5 := hide hw5
          clear hb4 hb5 hw5 HCG B5
          go_wp2_with (first
            | (refine wpList_store_new rfl 38 _ _ rfl w4 _ (PC q).toArray _ rfl rfl rfl Try.size38 rfl (all_one (PC_one q)) ?_; rw [← HW5.out, HE4.out])
            | (refine wpList_load_w9 rfl 38 _ rfl E4 0 rfl (PC q) _ r1 Try.underlying38 rfl Try.size38 ?_)
            | (refine wpList_load_w9 rfl 38 _ rfl E 0 rfl (PC q) _ r2 Try.underlying38 rfl Try.size38 ?_)
            | fail)
          refine CE.out.mono ?_
          rintro e w6 ⟨rfl, hb6⟩
          have L6 : Hid (Below N w w6) := (show _ from L5.out.trans (hb6.mono (by have := L5.out.size; have := HNw.out; omega)))
          clear hb6
          go_wp2_with fail
          go_ret
          exact ⟨rfl, L6.out⟩
#print axioms bufferLast_any
end Go.Proofs.Ytfjlkncliljjnaa
