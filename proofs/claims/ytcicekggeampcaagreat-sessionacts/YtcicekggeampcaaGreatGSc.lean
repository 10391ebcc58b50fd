/-
  Texts that ride together: StI StT.
-/
import Derived.Test.YtcicekggeampcaaGreatGSb
/-
  Install: what the call does.
-/
namespace Go.Proofs.YtcicekggeampcaaGreat
open Go.RowKit
/-- A look-up, in every world in which the map is as it was. -/
theorem MapC.look_all {w : World} {M : Nat} {ch : ByteArray → List Ver} {N : Nat} (h : MapC w M ch N) (k : ByteArray) (hk : k.size ≤ maxLen) :
    ∃ v, OwnV w 0 115 v (ch k) ∧ (∀ w', Below w.heap.size w w' → (Instr.lookup 62 (.map (some M)) (.string k) true).run Tryz.prog w' = .ok (.tuple #[v, .bool (!(ch k).isEmpty)]) w') ∧
      (∀ w', Below w.heap.size w w' → (Instr.lookup 62 (.map (some M)) (.string k) false).run Tryz.prog w' = .ok v w') := by
  obtain ⟨f, h1, h2, h3⟩ := h
  have e : (f k).isSome = !(ch k).isEmpty := by
    cases hf : f k with
    | none => rw [h3 k hf]; rfl
    | some v =>
      have := (h2 k v hf).1
      cases hc : ch k with
      | nil => exact absurd hc this
      | cons x y => rfl
  have hm : ∀ w', Below w.heap.size w w' → MapF w' M f N := fun w' hb => h1.chg (F := fun _ => False) (Chg.of_below hb) id
  refine ⟨(f k).getD (.slice none 0 0), ?_, fun w' hb => ?_, fun w' hb => (hm w' hb).look k hk⟩
  · cases hf : f k with
    | none => rw [h3 k hf]; exact ownV_nil w 0 115
    | some v => exact (h2 k v hf).2
  · rw [← e]
    exact (hm w' hb).look_ok k hk
/-- What is kept while pairs are installed. -/
structure InsI (w : World) (D M : Nat) (vk : Value) (ks : List ByteArray) (ch : ByteArray → List Ver) (la fl : Int) (n : Int) (l : List Pr) (vf : Value) (wr : World) : Prop where
  d : Blk wr D 65 (SB M vk la fl)
  k : OwnG KE wr 0 9 vk ks
  m : MapC wr M (addL ch n l) (ks.length + (freshP ⟨ch, la, fl⟩ l).length)
  f : OwnG KE wr w.heap.size 9 vf (freshP ⟨ch, la, fl⟩ l)
  c : Chg (fun b => b = M) w wr
theorem InsI.kept {w : World} {D M : Nat} {vk : Value} {ks : List ByteArray} {ch : ByteArray → List Ver} {la fl : Int} {n : Int} {l : List Pr} {vf : Value} {wr wr' : World} (h : InsI w D M vk ks ch la fl n l vf wr) (hb : Below wr.heap.size wr wr') : InsI w D M vk ks ch la fl n l vf wr' :=
  ⟨h.d.kept hb, h.k.kept hb, h.m.kept hb, h.f.kept hb, h.c.trans (Chg.of_below hb)⟩
/-- Behind an append to the new keys. -/
theorem InsI.grow {w : World} {D M : Nat} {vk : Value} {ks : List ByteArray} {ch : ByteArray → List Ver} {la fl : Int} {n : Int} {l : List Pr} {vf : Value} {wr w6 : World} (h : InsI w D M vk ks ch la fl n l vf wr) (hD : D < w.heap.size) (hM : M < w.heap.size) (hk : ∀ b, vk.ownBlock = some b → b < w.heap.size) (hg : wr.grownBy w6 vf.ownBlock) :
    Blk w6 D 65 (SB M vk la fl) ∧ OwnG KE w6 0 9 vk ks ∧ MapC w6 M (addL ch n l) (ks.length + (freshP ⟨ch, la, fl⟩ l).length) ∧ Chg (fun b => b = M) w w6 ∧ Chg (fun b => vf.ownBlock = some b) wr w6 := by
  have hc : Chg (fun b => vf.ownBlock = some b) wr w6 := Chg.of_grown hg (fun k e _ => e)
  have hB : ∀ b, vf.ownBlock = some b → w.heap.size ≤ b := fun b hb => (h.f.block hb).1
  refine ⟨h.d.chg hc (fun e => by have := hB _ e; omega), h.k.chg hc (fun b hb e => by have := hB _ e; have := hk b hb; omega), h.m.chg hc (fun e => by have := hB _ e; omega) (fun b cur hb e => ?_), h.c.then hc (fun i hi e => by have := hB _ e; omega), hc⟩
  obtain ⟨_, _, cur', hc'⟩ := h.f.block e
  rw [hb] at hc'
  cases hc'
theorem fold_add1 (ch : ByteArray → List Ver) (n : Int) (p : Pr) : (fun j => if j = p.1 then ch p.1 ++ [verOf n p] else ch j) = add1 ch n p := by
  funext j
  unfold add1
  by_cases h : j = p.1
  · rw [if_pos h, if_pos h, h]
  · rw [if_neg h, if_neg h]
/-- Behind one more pair. -/
theorem InsI.step {w : World} {D M : Nat} {vk : Value} {ks : List ByteArray} {ch : ByteArray → List Ver} {la fl : Int} {n : Int} {l : List Pr} {p : Pr} {vf vf' : Value} {wr w1 : World}
    (_h : InsI w D M vk ks ch la fl n l vf wr) (_hne : addL ch n l p.1 = ch p.1) (hc : Chg (fun b => b = M) w w1) (hd : Blk w1 D 65 (SB M vk la fl)) (hk : OwnG KE w1 0 9 vk ks)
    (hm : MapC w1 M (fun j => if j = p.1 then addL ch n l p.1 ++ [verOf n p] else addL ch n l j) (if (ch p.1).isEmpty = true then ks.length + (freshP ⟨ch, la, fl⟩ l).length + 1 else ks.length + (freshP ⟨ch, la, fl⟩ l).length))
    (hf : OwnG KE w1 w.heap.size 9 vf' (freshP ⟨ch, la, fl⟩ l ++ if (ch p.1).isEmpty = true then [p.1] else [])) : InsI w D M vk ks ch la fl n (l ++ [p]) vf' w1 := by
  refine ⟨hd, hk, ?_, ?_, hc⟩
  · rw [addL_snoc, freshP_snoc, List.length_append]
    have e := fold_add1 (addL ch n l) n p
    rw [e] at hm
    cases hq : (ch p.1).isEmpty with
    | true => rw [hq] at hm; exact hm
    | false => rw [hq] at hm; exact hm
  · rw [freshP_snoc]
    exact hf

set_option maxRecDepth 100000 in
set_option maxHeartbeats 4000000 in
theorem install_any {w : World} {D M : Nat} {vk : Value} {ks : List ByteArray} {s : SP} (h : StAt w D M vk ks s) {vl : Value} {L : List Pr} (hr : RdG PE w vl L) (hap : ∀ b, InB vl b → ¬ Mine D M vk b) (hN : ks.length + L.length ≤ 1000000) (hla : s.last ≤ 1000000) (n : Int) :
    Calls Tryz.prog 29 #[.pointer (some ⟨D, 0, none⟩), .int .i64 n, vl] w fun e w' => e = .returned (.int .i64 (if instOk s n L = true then 0 else 2)) ∧ ∃ vk' ks', StAt w' D M vk' ks' (instP s n L) ∧ ks'.length ≤ ks.length + L.length ∧
      Chg (Mine D M vk) w w' ∧ (∀ b, vk'.ownBlock = some b → vk.ownBlock = some b ∨ w.heap.size ≤ b) := by
  have HS := hide h
  have HL := hide hr
  have HAP := hide hap
  obtain ⟨a, cp, rfl⟩ := hr.slice
  have hz := Zpair
  obtain ⟨ch, la, fl⟩ := s
  simp only at hla
  have hla0 : 0 ≤ la := Int.le_trans h.inv.fl h.inv.fle
  clear h hr hap
  obtain ⟨m, HM⟩ : ∃ m, Hid (L.length = m) := ⟨_, rfl⟩
  rw [HM.out] at HL hN HAP ⊢
  obtain ⟨er, HER⟩ : ∃ x : Int, Hid ((if instOk ⟨ch, la, fl⟩ n L = true then 0 else 2) = x) := ⟨_, rfl⟩
  obtain ⟨s', HS'⟩ : ∃ x, Hid (instP ⟨ch, la, fl⟩ n L = x) := ⟨_, rfl⟩
  rw [HER.out, HS'.out]
  go_enter Tryz.func29, Tryz.ntmps29
  go_wp2_with fail
  refine (sMade_any HS.out.d).mono ?_
  rintro e w1 ⟨rfl, hw⟩
  subst w1
  go_wp2_with fail
  refine (sGood_any HL.out).mono ?_
  rintro e w1 ⟨rfl, hb1⟩
  have L1 : Hid (Below w.heap.size w w1) := hb1
  clear hb1
  obtain ⟨q, HQ⟩ : ∃ q, Hid (goodP em L = q) := ⟨_, rfl⟩
  have HI : Hid (instOk ⟨ch, la, fl⟩ n L = (q && decide (n = la + 1))) := (show _ = _ by unfold instOk; rw [HQ.out])
  rw [HQ.out]
  cases q with
  | false =>
    go_wp2_with fail
    go_ret
    refine ⟨?_, vk, ks, ?_, by omega, Chg.of_below L1.out, fun b hb => .inl hb⟩
    · rw [← HER.out, HI.out]; rfl
    · rw [← HS'.out]
      unfold instP
      rw [HI.out]
      exact HS.out.kept L1.out
  | true =>
    have c2 := (HS.out.d.kept L1.out).cell (j := 2) rfl
    simp only at c2
    by_cases hat : n = la + 1
    · have HI2 : Hid (instOk ⟨ch, la, fl⟩ n L = true) := (show _ = _ by rw [HI.out, decide_eq_true hat]; rfl)
      have HAT := hide hat
      have hat' : la + 1 = n := hat.symm
      clear hat
      go_wp2_with fail
      clear hat'
      have I0 : Hid (InsI w D M vk ks ch la fl n (L.take 0) (.slice none 0 0) w1) := (show InsI _ _ _ _ _ _ _ _ _ _ _ _ from ⟨HS.out.d.kept L1.out, HS.out.kk.kept L1.out, HS.out.mp.kept L1.out, ownG_nil _ _ _, Chg.of_below L1.out⟩)
      go_loopg [7, 29] m (fun g y x wr => ∃ (i : Nat) (vf : Value), g + i = m ∧ y = vf ∧ x = .int .i64 (i : Int) ∧ Hid (InsI w D M vk ks ch la fl n (L.take i) vf wr))
      case atStart => exact ⟨0, _, by omega, rfl, rfl, I0⟩
      case round =>
        obtain ⟨i, vf, hgi, rfl, rfl, HR⟩ := hrel
        by_cases hlt : i < m
        · have q2 : (i : Int) < (m : Int) := by omega
          have hrd := hide (HL.out.chg HR.out.c (fun b hb e => HAP.out b hb (.inr (.inl e))))
          obtain ⟨b, off, rfl, hlb4, hx⟩ := (hrd.out).nth (by omega)
          have hlt' : i < L.length := by rw [HM.out]; exact hlt
          have hr : wr.rangeAt b (off + i * 3) (PC L[i]) := hx i hlt'
          obtain ⟨p, HPp⟩ : ∃ p, Hid (L[i] = p) := ⟨L[i], (show L[i] = L[i] from rfl)⟩
          rw [HPp.out] at hr
          clear hx hlb4
          go_upto_region 9 with (first
            | (refine wpList_load_mid rfl 51 _ rfl b (off + i * 3) rfl (PC p) _ hr Tryz.underlying51 rfl Tryz.size51 ?_)
            | (refine wpList_store_new rfl 51 _ _ rfl wr _ (PC p).toArray _ rfl rfl rfl Tryz.size51 rfl (all_one (PC_one p)) ?_)
            | fail)
          obtain ⟨E, HE⟩ : ∃ E, Hid (wr.heap.size = E) := ⟨_, rfl⟩
          rw [HE.out]
          obtain ⟨w4, hw4⟩ : ∃ x, x = wr.alloc (.cells (PC p).toArray 51 (0, 0)) := ⟨_, rfl⟩
          rw [← hw4]
          have G4 : Hid (Below wr.heap.size wr w4) := (show Below _ _ _ by rw [hw4]; exact (Below.refl _ _).alloc (Nat.le_refl _) _)
          have B4 : Hid (Blk w4 E 51 (PC p)) := (show Blk _ _ _ _ by rw [hw4, ← HE.out]; exact Blk.new wr 51 (PC p))
          clear hw4 hr
          have I4 := hide (HR.out.kept G4.out)
          have hmem : p ∈ L := by rw [← HPp.out]; exact List.getElem_mem hlt'
          have HG := hide (goodP_at HQ.out p hmem)
          have hks : p.1.size ≤ maxLen := by have := HG.out.2.1; simp only [maxLen]; omega
          have hnk : Hid (addL ch n (L.take i) p.1 = ch p.1) := (show _ = _ from addL_none (fun e => by
            have hs := goodP_srt HQ.out
            rw [← List.take_append_drop i L, List.map_append] at hs
            have hd : p.1 ∈ (L.drop i).map (·.1) := by rw [List.drop_eq_getElem_cons hlt', HPp.out]; simp
            have := (List.pairwise_append.1 hs).2.2 _ e _ hd
            rw [lt_irrefl] at this
            cases this))
          obtain ⟨vc, hvc, hlk, -⟩ := I4.out.m.look_all p.1 hks
          rw [hnk.out] at hvc hlk
          have HVC := hide hvc
          have HLK := hide hlk
          have htk : Hid (L.take (i + 1) = L.take i ++ [p]) := (show _ = _ by rw [List.take_succ_eq_append_getElem hlt', HPp.out])
          have HPO := hide (HS.out.inv.putOk (p := p) HG.out.2.2.2)
          simp only at HPO
          rw [← HAT.out] at HPO
          clear hvc hlk hmem
          obtain ⟨ky, va, dd⟩ := p
          simp only at *
          refine wp_region_inv Tryz.mixed (KS (fun i_ => match i_ with | 0 | 1 | 2 => .val (.pointer (some ⟨D, 0, none⟩)) | 3 => .val (.map (some M)) | 4 => .val (.pointer (some ⟨E, 0, none⟩)) | 5 => .val (.string ky) | 6 | 7 => .val (.tuple #[vc, .bool (!(ch ky).isEmpty)]) | 8 | 10 => .val (vc) | 9 | 11 => .val (.bool (!(ch ky).isEmpty)) | _ => .free)) 75 rfl (by decide +kernel) (KS_mono _) ?_ ?_
          · refine AllFrom.cons (fun a' w' hg hk hd => ?_) (AllFrom.cons (fun a' w' hg hk hd => ?_) (AllFrom.cons (fun a' w' hg hk hd => ?_) (AllFrom.cons (fun a' w' hg hk hd => ?_) (AllFrom.cons (fun a' w' hg hk hd => ?_) (AllFrom.cons (fun a' w' hg hk hd => ?_) (AllFrom.cons (fun a' w' hg hk hd => ?_) (AllFrom.cons (fun a' w' hg hk hd => ?_) (AllFrom.cons (fun a' w' hg hk hd => ?_) (AllFrom.cons (fun a' w' hg hk hd => ?_) (AllFrom.cons (fun a' w' hg hk hd => ?_) (AllFrom.cons (fun a' w' hg hk hd => ?_) AllFrom.nil)))))))))))
            · -- 0: Op.move (Operand.tmp 0)
              intro Q
              have e0 : a'.eval (.tmp 0) = .pointer (some ⟨D, 0, none⟩) := hk.at 0 (by decide +kernel)
              exact wp_value _ (by simp only [execOp, e0]; rfl) (KS_mkv rfl rfl)
            · -- 1: Op.nilCheck (Operand.tmp 34)
              intro Q
              have e34 : a'.eval (.tmp 34) = .pointer (some ⟨D, 0, none⟩) := KS_val (Deps.val hd 0 34 (by decide +kernel)) rfl
              clear hd hk
              exact wp_value (.pointer (some ⟨D, 0, none⟩)) (by simp only [execOp, e34]; go_simp) (KS_mkv rfl rfl)
            · -- 2: Op.fieldAddr 55 (Operand.tmp 35) 0
              intro Q
              have e35 : a'.eval (.tmp 35) = .pointer (some ⟨D, 0, none⟩) := KS_val (Deps.val hd 1 35 (by decide +kernel)) rfl
              clear hd hk
              exact wp_value (.pointer (some ⟨D, 0, none⟩)) (by simp only [execOp, e35]; go_simp) (KS_mkv rfl rfl)
            · -- 3: Op.load 53 (Operand.tmp 36)
              intro Q
              have e36 : a'.eval (.tmp 36) = .pointer (some ⟨D, 0, none⟩) := KS_val (Deps.val hd 2 36 (by decide +kernel)) rfl
              have c := (I4.out.d.kept hg).cell (j := 0) rfl
              clear hd hk
              exact wp_value (.map (some M)) (by simp only [execOp, e36]; go_simp) (KS_mkv rfl rfl)
            · -- 4: Op.fieldAddr 49 (Operand.tmp 9) 0
              intro Q
              have e9 : a'.eval (.tmp 9) = .pointer (some ⟨E, 0, none⟩) := hk.at 9 (by decide +kernel)
              clear hd hk
              exact wp_value (.pointer (some ⟨E, 0, none⟩)) (by simp only [execOp, e9]; go_simp) (KS_mkv rfl rfl)
            · -- 5: Op.load 9 (Operand.tmp 38)
              intro Q
              have e38 : a'.eval (.tmp 38) = .pointer (some ⟨E, 0, none⟩) := KS_val (Deps.val hd 4 38 (by decide +kernel)) rfl
              have c := (B4.out.kept hg).cell (j := 0) rfl
              clear hd hk
              exact wp_value (.string ky) (by simp only [execOp, e38]; go_simp) (KS_mkv rfl rfl)
            · -- 6: Op.lookup 53 (Operand.tmp 37) (Operand.tmp 39) true
              intro Q
              have e37 : a'.eval (.tmp 37) = .map (some M) := KS_val (Deps.val hd 3 37 (by decide +kernel)) rfl
              have e39 : a'.eval (.tmp 39) = .string ky := KS_val (Deps.val hd 5 39 (by decide +kernel)) rfl
              have c := HLK.out _ hg
              clear hd hk
              exact wp_value (.tuple #[vc, .bool (!(ch ky).isEmpty)]) (by simp only [execOp, e37, e39, c, Sem.run_bind, Sem.run_pure, Result.andThen_ok]) (KS_mkv rfl rfl)
            · -- 7: Op.move (Operand.tmp 40)
              intro Q
              have e40 : a'.eval (.tmp 40) = .tuple #[vc, .bool (!(ch ky).isEmpty)] := KS_val (Deps.val hd 6 40 (by decide +kernel)) rfl
              exact wp_value _ (by simp only [execOp, e40]; rfl) (KS_mkv rfl rfl)
            · -- 8: Op.extract (Operand.tmp 33) 0
              intro Q
              have e33 : a'.eval (.tmp 33) = .tuple #[vc, .bool (!(ch ky).isEmpty)] := KS_val (Deps.val hd 7 33 (by decide +kernel)) rfl
              clear hd hk
              exact wp_value (vc) (by simp only [execOp, e33]; go_simp) (KS_mkv rfl rfl)
            · -- 9: Op.extract (Operand.tmp 33) 1
              intro Q
              have e33 : a'.eval (.tmp 33) = .tuple #[vc, .bool (!(ch ky).isEmpty)] := KS_val (Deps.val hd 7 33 (by decide +kernel)) rfl
              clear hd hk
              exact wp_value (.bool (!(ch ky).isEmpty)) (by simp only [execOp, e33]; go_simp) (KS_mkv rfl rfl)
            · -- 10: Op.assign (Operand.tmp 41)
              intro Q
              have e41 : a'.eval (.tmp 41) = vc := KS_val (Deps.val hd 8 41 (by decide +kernel)) rfl
              exact wp_value _ (by simp only [execOp, e41]; rfl) (KS_mkv rfl rfl)
            · -- 11: Op.assign (Operand.tmp 42)
              intro Q
              have e42 : a'.eval (.tmp 42) = .bool (!(ch ky).isEmpty) := KS_val (Deps.val hd 9 42 (by decide +kernel)) rfl
              exact wp_value _ (by simp only [execOp, e42]; rfl) (KS_mkv rfl rfl)
          · intro a' w5 hsz hdf hk hall hg
            have e34 : a'.eval (.tmp 34) = .pointer (some ⟨D, 0, none⟩) := KS_val (hall 0 _ 34 rfl rfl) rfl
            have e35 : a'.eval (.tmp 35) = .pointer (some ⟨D, 0, none⟩) := KS_val (hall 1 _ 35 rfl rfl) rfl
            have e36 : a'.eval (.tmp 36) = .pointer (some ⟨D, 0, none⟩) := KS_val (hall 2 _ 36 rfl rfl) rfl
            have e37 : a'.eval (.tmp 37) = .map (some M) := KS_val (hall 3 _ 37 rfl rfl) rfl
            have e38 : a'.eval (.tmp 38) = .pointer (some ⟨E, 0, none⟩) := KS_val (hall 4 _ 38 rfl rfl) rfl
            have e39 : a'.eval (.tmp 39) = .string ky := KS_val (hall 5 _ 39 rfl rfl) rfl
            have e40 : a'.eval (.tmp 40) = .tuple #[vc, .bool (!(ch ky).isEmpty)] := KS_val (hall 6 _ 40 rfl rfl) rfl
            have e33 : a'.eval (.tmp 33) = .tuple #[vc, .bool (!(ch ky).isEmpty)] := KS_val (hall 7 _ 33 rfl rfl) rfl
            have e41 : a'.eval (.tmp 41) = vc := KS_val (hall 8 _ 41 rfl rfl) rfl
            have e42 : a'.eval (.tmp 42) = .bool (!(ch ky).isEmpty) := KS_val (hall 9 _ 42 rfl rfl) rfl
            have e10 : a'.eval (.tmp 10) = vc := KS_val (hall 10 _ 10 rfl rfl) rfl
            have e11 : a'.eval (.tmp 11) = .bool (!(ch ky).isEmpty) := KS_val (hall 11 _ 11 rfl rfl) rfl
            have ha := act_puts 75 rfl hsz hdf hk [34, 35, 36, 37, 38, 39, 40, 33, 41, 42, 10, 11] (by decide +kernel)
            simp only [puts, List.foldl_cons, List.foldl_nil, e34, e35, e36, e37, e38, e39, e40, e33, e41, e42, e10, e11] at ha
            simp only [Act.put, List.setIfInBounds_toArray, List.set_cons_succ, List.set_cons_zero] at ha
            clear hall hk hsz hdf e34 e35 e36 e37 e38 e39 e40 e33 e41 e42 e10 e11
            subst ha
            have G5 := hide (show Below w4.heap.size w4 w5 from hg)
            clear hg
            have I5 := hide (I4.out.kept G5.out)
            have B5 := hide (B4.out.kept G5.out)
            have HV5 := hide (HVC.out.kept G5.out)
            clear HLK HVC
            have hclen : Hid ((ch ky).length ≤ 4398046511103) := (show (ch ky).length ≤ 4398046511103 by have h2 : ((ch ky).length : Int) ≤ la := HS.out.inv.len ky; omega)
            have hbd : ∀ W, (Instr.build 115 #[(0, .int .i64 n), (1, .string va), (2, .bool dd)]).run Tryz.prog W = .ok (.agg (VC (n, va, dd)).toArray) W := fun W => by kernel_rfl
            obtain ⟨qe, HQE⟩ : ∃ q, Hid ((ch ky).isEmpty = q) := ⟨_, rfl⟩
            rw [HQE.out]
            cases qe with
            | false =>
              have D5 := hide I5.out.d
              have KK := hide I5.out.k
              have C5 := hide I5.out.c
              have M5 := hide I5.out.m
              have F5 : Hid (OwnG KE w5 w.heap.size 9 u7 (freshP ⟨ch, la, fl⟩ (L.take i) ++ if (ch (ky, va, dd).1).isEmpty = true then [(ky, va, dd).1] else [])) := (show OwnG _ _ _ _ _ _ by
                simp only [HQE.out, Bool.false_eq_true, if_false, List.append_nil]
                exact I5.out.f)
              go_wp2_with fail
              refine wp_region_z Tryz.mixed (KS (fun i_ => match i_ with | 0 | 1 | 2 => .val (.pointer (some ⟨D, 0, none⟩)) | 3 => .val (.map (some M)) | 4 => .val (.pointer (some ⟨E, 0, none⟩)) | 5 => .val (.string ky) | 6 => .val (vc) | 7 => .val (.int .i64 n) | 8 => .val (.pointer (some ⟨E, 1, none⟩)) | 9 => .val (.string va) | 10 => .val (.pointer (some ⟨E, 2, none⟩)) | 11 => .val (.bool dd) | 12 => .val (.agg (VC (n, va, dd)).toArray) | 13 | 14 => .of (fun W x => ∃ v', x = .tuple #[v', .bool true] ∧ OwnV W 0 115 v' (ch ky ++ [(n, va, dd)])) (fun _ _ _ hg h => by obtain ⟨v', h1, h2⟩ := h; exact ⟨v', h1, h2.kept hg⟩) | 15 => .of (fun W x => OwnV W 0 115 x (ch ky ++ [(n, va, dd)])) (fun _ _ _ hg h => OwnV.kept h hg) | _ => .free)) (fun W => MapC W M (fun j => if j = ky then ch ky ++ [(n, va, dd)] else addL ch n (L.take i) j) (if (ch ky).isEmpty = true then ks.length + (freshP ⟨ch, la, fl⟩ (L.take i)).length + 1 else ks.length + (freshP ⟨ch, la, fl⟩ (L.take i)).length) ∧ Chg (fun b => b = M) w5 W) 75 rfl (by decide +kernel) 17 (by decide) rfl (KS_mono _) ?_ ?_
              · refine AllFrom.cons ⟨rfl, ?_⟩ (AllFrom.cons ⟨rfl, ?_⟩ (AllFrom.cons ⟨rfl, ?_⟩ (AllFrom.cons ⟨rfl, ?_⟩ (AllFrom.cons ⟨rfl, ?_⟩ (AllFrom.cons ⟨rfl, ?_⟩ (AllFrom.cons ⟨rfl, ?_⟩ (AllFrom.cons ⟨rfl, ?_⟩ (AllFrom.cons ⟨rfl, ?_⟩ (AllFrom.cons ⟨rfl, ?_⟩ (AllFrom.cons ⟨rfl, ?_⟩ (AllFrom.cons ⟨rfl, ?_⟩ (AllFrom.cons ⟨rfl, ?_⟩ (AllFrom.cons ⟨rfl, ?_⟩ (AllFrom.cons ⟨rfl, ?_⟩ (AllFrom.cons ⟨rfl, ?_⟩ (AllFrom.cons ⟨rfl, ?_⟩ (AllFrom.cons ⟨rfl, ?_⟩ AllFrom.nil)))))))))))))))))
                · -- 0: Op.move (Operand.tmp 0)
                  rw [if_neg (by decide)]
                  refine ⟨fun a' w' hg hk hd => ?_, ?_⟩
                  · have e0 : a'.eval (.tmp 0) = .pointer (some ⟨D, 0, none⟩) := hk.at 0 (by decide +kernel)
                    exact wp_value _ (by simp only [execOp, e0]; rfl) (KS_mkv rfl rfl)
                  · exact fun h => absurd h (by decide +kernel)
                · -- 1: Op.nilCheck (Operand.tmp 51)
                  rw [if_neg (by decide)]
                  refine ⟨fun a' w' hg hk hd => ?_, ?_⟩
                  · have e51 : a'.eval (.tmp 51) = .pointer (some ⟨D, 0, none⟩) := KS_val (Deps.val hd 0 51 (by decide +kernel)) rfl
                    clear hd hk
                    exact wp_value (.pointer (some ⟨D, 0, none⟩)) (by simp only [execOp, e51]; go_simp) (KS_mkv rfl rfl)
                  · exact fun h => absurd h (by decide +kernel)
                · -- 2: Op.fieldAddr 55 (Operand.tmp 52) 0
                  rw [if_neg (by decide)]
                  refine ⟨fun a' w' hg hk hd => ?_, ?_⟩
                  · have e52 : a'.eval (.tmp 52) = .pointer (some ⟨D, 0, none⟩) := KS_val (Deps.val hd 1 52 (by decide +kernel)) rfl
                    clear hd hk
                    exact wp_value (.pointer (some ⟨D, 0, none⟩)) (by simp only [execOp, e52]; go_simp) (KS_mkv rfl rfl)
                  · exact fun h => absurd h (by decide +kernel)
                · -- 3: Op.load 53 (Operand.tmp 53)
                  rw [if_neg (by decide)]
                  refine ⟨fun a' w' hg hk hd => ?_, ?_⟩
                  · have e53 : a'.eval (.tmp 53) = .pointer (some ⟨D, 0, none⟩) := KS_val (Deps.val hd 2 53 (by decide +kernel)) rfl
                    have c := (D5.out.kept hg).cell (j := 0) rfl
                    clear hd hk
                    exact wp_value (.map (some M)) (by simp only [execOp, e53]; go_simp) (KS_mkv rfl rfl)
                  · exact fun h => absurd h (by decide +kernel)
                · -- 4: Op.fieldAddr 49 (Operand.tmp 9) 0
                  rw [if_neg (by decide)]
                  refine ⟨fun a' w' hg hk hd => ?_, ?_⟩
                  · have e9 : a'.eval (.tmp 9) = .pointer (some ⟨E, 0, none⟩) := hk.at 9 (by decide +kernel)
                    clear hd hk
                    exact wp_value (.pointer (some ⟨E, 0, none⟩)) (by simp only [execOp, e9]; go_simp) (KS_mkv rfl rfl)
                  · exact fun h => absurd h (by decide +kernel)
                · -- 5: Op.load 9 (Operand.tmp 55)
                  rw [if_neg (by decide)]
                  refine ⟨fun a' w' hg hk hd => ?_, ?_⟩
                  · have e55 : a'.eval (.tmp 55) = .pointer (some ⟨E, 0, none⟩) := KS_val (Deps.val hd 4 55 (by decide +kernel)) rfl
                    have c := (B5.out.kept hg).cell (j := 0) rfl
                    clear hd hk
                    exact wp_value (.string ky) (by simp only [execOp, e55]; go_simp) (KS_mkv rfl rfl)
                  · exact fun h => absurd h (by decide +kernel)
                · -- 6: Op.move (Operand.tmp 10)
                  rw [if_neg (by decide)]
                  refine ⟨fun a' w' hg hk hd => ?_, ?_⟩
                  · have e10 : a'.eval (.tmp 10) = vc := hk.at 10 (by decide +kernel)
                    exact wp_value _ (by simp only [execOp, e10]; rfl) (KS_mkv rfl rfl)
                  · exact fun h => absurd h (by decide +kernel)
                · -- 7: Op.move (Operand.tmp 1)
                  rw [if_neg (by decide)]
                  refine ⟨fun a' w' hg hk hd => ?_, ?_⟩
                  · have e1 : a'.eval (.tmp 1) = .int .i64 n := hk.at 1 (by decide +kernel)
                    exact wp_value _ (by simp only [execOp, e1]; rfl) (KS_mkv rfl rfl)
                  · exact fun h => absurd h (by decide +kernel)
                · -- 8: Op.fieldAddr 49 (Operand.tmp 9) 1
                  rw [if_neg (by decide)]
                  refine ⟨fun a' w' hg hk hd => ?_, ?_⟩
                  · have e9 : a'.eval (.tmp 9) = .pointer (some ⟨E, 0, none⟩) := hk.at 9 (by decide +kernel)
                    clear hd hk
                    exact wp_value (.pointer (some ⟨E, 1, none⟩)) (by simp only [execOp, e9]; go_simp) (KS_mkv rfl rfl)
                  · exact fun h => absurd h (by decide +kernel)
                · -- 9: Op.load 9 (Operand.tmp 59)
                  rw [if_neg (by decide)]
                  refine ⟨fun a' w' hg hk hd => ?_, ?_⟩
                  · have e59 : a'.eval (.tmp 59) = .pointer (some ⟨E, 1, none⟩) := KS_val (Deps.val hd 8 59 (by decide +kernel)) rfl
                    have c := (B5.out.kept hg).cell (j := 1) rfl
                    clear hd hk
                    exact wp_value (.string va) (by simp only [execOp, e59]; go_simp) (KS_mkv rfl rfl)
                  · exact fun h => absurd h (by decide +kernel)
                · -- 10: Op.fieldAddr 49 (Operand.tmp 9) 2
                  rw [if_neg (by decide)]
                  refine ⟨fun a' w' hg hk hd => ?_, ?_⟩
                  · have e9 : a'.eval (.tmp 9) = .pointer (some ⟨E, 0, none⟩) := hk.at 9 (by decide +kernel)
                    clear hd hk
                    exact wp_value (.pointer (some ⟨E, 2, none⟩)) (by simp only [execOp, e9]; go_simp) (KS_mkv rfl rfl)
                  · exact fun h => absurd h (by decide +kernel)
                · -- 11: Op.load 4 (Operand.tmp 61)
                  rw [if_neg (by decide)]
                  refine ⟨fun a' w' hg hk hd => ?_, ?_⟩
                  · have e61 : a'.eval (.tmp 61) = .pointer (some ⟨E, 2, none⟩) := KS_val (Deps.val hd 10 61 (by decide +kernel)) rfl
                    have c := (B5.out.kept hg).cell (j := 2) rfl
                    clear hd hk
                    exact wp_value (.bool dd) (by simp only [execOp, e61]; go_simp) (KS_mkv rfl rfl)
                  · exact fun h => absurd h (by decide +kernel)
                · -- 12: Op.build 76 #[(0, Operand.tmp 58), (1, Operand.tmp 60), (2, 
                  rw [if_neg (by decide)]
                  refine ⟨fun a' w' hg hk hd => ?_, ?_⟩
                  · have e58 : a'.eval (.tmp 58) = .int .i64 n := KS_val (Deps.val hd 7 58 (by decide +kernel)) rfl
                    have e60 : a'.eval (.tmp 60) = .string va := KS_val (Deps.val hd 9 60 (by decide +kernel)) rfl
                    have e62 : a'.eval (.tmp 62) = .bool dd := KS_val (Deps.val hd 11 62 (by decide +kernel)) rfl
                    clear hd hk
                    exact wp_value (.agg (VC (n, va, dd)).toArray) (by simp only [execOp, List.map_toArray, List.map_cons, List.map_nil, e58, e60, e62, hbd, Sem.run_bind, Sem.run_pure, Result.andThen_ok]) (KS_mkv rfl rfl)
                  · exact fun h => absurd h (by decide +kernel)
                · -- 13: Op.call ( callee := Callee.value (Operand.func 40), args := 
                  rw [if_neg (by decide)]
                  refine ⟨fun a' w' hg hk hd => ?_, ?_⟩
                  · have e57 : a'.eval (.tmp 57) = vc := KS_val (Deps.val hd 6 57 (by decide +kernel)) rfl
                    have e63 : a'.eval (.tmp 63) = .agg (VC (n, va, dd)).toArray := KS_val (Deps.val hd 12 63 (by decide +kernel)) rfl
                    refine wp_call 61 _ (run_enter 61 _ _ rfl (by kernel_rfl)) ?_
                    simp only [List.map_toArray, List.map_nil, List.map_cons, e57, e63]
                    refine (put_any (HV5.out.kept hg).rd hclen.out (n, va, dd)).mono ?_
                    rintro e_ w_ ⟨v', rfl, ho, hb⟩
                    have hpo := HPO.out
                    unfold verOf at hpo
                    rw [hpo]
                    rw [putP_ok hpo] at ho
                    exact ⟨_, rfl, KS_mko rfl ⟨v', rfl, ho.mono (Nat.zero_le _)⟩, hb⟩
                  · exact fun h => absurd h (by decide +kernel)
                · -- 14: Op.move (Operand.tmp 64)
                  rw [if_neg (by decide)]
                  refine ⟨fun a' w' hg hk hd => ?_, ?_⟩
                  · have r64 := KS_of (Deps.val hd 13 64 (by decide +kernel)) rfl
                    exact wp_value (a'.eval (.tmp 64)) (by simp only [execOp]; rfl) (KS_mko rfl r64)
                  · exact fun h => absurd h (by decide +kernel)
                · -- 15: Op.extract (Operand.tmp 50) 0
                  rw [if_neg (by decide)]
                  refine ⟨fun a' w' hg hk hd => ?_, ?_⟩
                  · have r50 := KS_of (Deps.val hd 14 50 (by decide +kernel)) rfl
                    obtain ⟨v', h1, h2⟩ := r50
                    exact wp_value v' (by simp only [execOp, h1]; go_simp) (KS_mko rfl h2)
                  · exact fun h => absurd h (by decide +kernel)
                · -- 16: Op.extract (Operand.tmp 50) 1
                  rw [if_neg (by decide)]
                  refine ⟨fun a' w' hg hk hd => ?_, ?_⟩
                  · have r50 := KS_of (Deps.val hd 14 50 (by decide +kernel)) rfl
                    exact wp_value (.bool true) (by obtain ⟨v', h1, h2⟩ := r50; simp only [execOp, h1]; go_simp) (KS_mkf rfl)
                  · intro _ a' w' hk hC hd
                    obtain ⟨W_, hW_⟩ := hd 14 50 (by decide +kernel)
                    obtain ⟨v', h1, h2⟩ := KS_of hW_ rfl
                    exact ⟨.bool true, by simp only [execOp, h1]; go_simp, w', KS_mkf rfl⟩
                · -- 17: Op.mapUpdate 53 (Operand.tmp 54) (Operand.tmp 56) (Operand.t
                  rw [if_pos (by decide)]
                  intro a' w' hg hk hall
                  have e54 : a'.eval (.tmp 54) = .map (some M) := KS_val (hall 3 _ 54 (by decide +kernel) rfl rfl) rfl
                  have e56 : a'.eval (.tmp 56) = .string ky := KS_val (hall 5 _ 56 (by decide +kernel) rfl rfl) rfl
                  have r65 := KS_of (hall 15 _ 65 (by decide +kernel) rfl rfl) rfl
                  generalize hv65 : a'.eval (.tmp 65) = v65 at r65
                  have hm7 := M5.out.kept hg
                  obtain ⟨w8, hrun, hm8, ht8⟩ := hm7.put (by have := freshP_len ⟨ch, la, fl⟩ (L.take i); rw [List.length_take] at this; omega) ky hks r65 (by simp)
                  rw [hnk.out] at hm8
                  unfold Oper.wp execOp
                  simp only [Sem.run_bind, Sem.run_pure, Result.andThen_ok, e54, e56, hv65, hrun]
                  exact ⟨_, rfl, hm8, (Chg.of_below (show Below w5.heap.size w5 w' from hg)).trans (Chg.turned ht8 rfl)⟩
              · intro a' w8 hsz hdf hk hall hC
                have e51 : a'.eval (.tmp 51) = .pointer (some ⟨D, 0, none⟩) := by obtain ⟨W_, hW_⟩ := hall 0 _ 51 (by decide) rfl rfl; exact KS_val hW_ rfl
                have e52 : a'.eval (.tmp 52) = .pointer (some ⟨D, 0, none⟩) := by obtain ⟨W_, hW_⟩ := hall 1 _ 52 (by decide) rfl rfl; exact KS_val hW_ rfl
                have e53 : a'.eval (.tmp 53) = .pointer (some ⟨D, 0, none⟩) := by obtain ⟨W_, hW_⟩ := hall 2 _ 53 (by decide) rfl rfl; exact KS_val hW_ rfl
                have e54 : a'.eval (.tmp 54) = .map (some M) := by obtain ⟨W_, hW_⟩ := hall 3 _ 54 (by decide) rfl rfl; exact KS_val hW_ rfl
                have e55 : a'.eval (.tmp 55) = .pointer (some ⟨E, 0, none⟩) := by obtain ⟨W_, hW_⟩ := hall 4 _ 55 (by decide) rfl rfl; exact KS_val hW_ rfl
                have e56 : a'.eval (.tmp 56) = .string ky := by obtain ⟨W_, hW_⟩ := hall 5 _ 56 (by decide) rfl rfl; exact KS_val hW_ rfl
                have e57 : a'.eval (.tmp 57) = vc := by obtain ⟨W_, hW_⟩ := hall 6 _ 57 (by decide) rfl rfl; exact KS_val hW_ rfl
                have e58 : a'.eval (.tmp 58) = .int .i64 n := by obtain ⟨W_, hW_⟩ := hall 7 _ 58 (by decide) rfl rfl; exact KS_val hW_ rfl
                have e59 : a'.eval (.tmp 59) = .pointer (some ⟨E, 1, none⟩) := by obtain ⟨W_, hW_⟩ := hall 8 _ 59 (by decide) rfl rfl; exact KS_val hW_ rfl
                have e60 : a'.eval (.tmp 60) = .string va := by obtain ⟨W_, hW_⟩ := hall 9 _ 60 (by decide) rfl rfl; exact KS_val hW_ rfl
                have e61 : a'.eval (.tmp 61) = .pointer (some ⟨E, 2, none⟩) := by obtain ⟨W_, hW_⟩ := hall 10 _ 61 (by decide) rfl rfl; exact KS_val hW_ rfl
                have e62 : a'.eval (.tmp 62) = .bool dd := by obtain ⟨W_, hW_⟩ := hall 11 _ 62 (by decide) rfl rfl; exact KS_val hW_ rfl
                have e63 : a'.eval (.tmp 63) = .agg (VC (n, va, dd)).toArray := by obtain ⟨W_, hW_⟩ := hall 12 _ 63 (by decide) rfl rfl; exact KS_val hW_ rfl
                obtain ⟨x64, e64⟩ : ∃ v, a'.eval (.tmp 64) = v := ⟨_, rfl⟩
                obtain ⟨x50, e50⟩ : ∃ v, a'.eval (.tmp 50) = v := ⟨_, rfl⟩
                obtain ⟨x65, e65⟩ : ∃ v, a'.eval (.tmp 65) = v := ⟨_, rfl⟩
                obtain ⟨x66, e66⟩ : ∃ v, a'.eval (.tmp 66) = v := ⟨_, rfl⟩
                have ha := act_puts 75 rfl hsz hdf hk [51, 52, 53, 54, 55, 56, 57, 58, 59, 60, 61, 62, 63, 64, 50, 65, 66] (by decide +kernel)
                simp only [puts, List.foldl_cons, List.foldl_nil, e51, e52, e53, e54, e55, e56, e57, e58, e59, e60, e61, e62, e63, e64, e50, e65, e66] at ha
                simp only [Act.put, List.setIfInBounds_toArray, List.set_cons_succ, List.set_cons_zero] at ha
                clear hall hk hsz hdf e51 e52 e53 e54 e55 e56 e57 e58 e59 e60 e61 e62 e63 e64 e50 e65 e66
                subst ha
                obtain ⟨hm8, c8⟩ := hC
                have hMD : D ≠ M := HS.out.ne
                have HR8 : Hid (InsI w D M vk ks ch la fl n (L.take (i + 1)) u7 w8) := (show InsI _ _ _ _ _ _ _ _ _ _ _ _ by
                  rw [htk.out]
                  refine HR.out.step (p := (ky, va, dd)) hnk.out (C5.out.trans c8) (D5.out.chg c8 (fun e => hMD e)) (KK.out.chg c8 (fun b hb e => (HS.out.kd hb).2 e)) ?_ ?_
                  · rw [hnk.out]
                    exact hm8
                  · refine OwnG.chg F5.out c8 (fun b hb e => ?_)
                    have := (OwnG.block F5.out hb).1
                    have := HS.out.lt (b := M) (.inr (.inl rfl))
                    omega)
                clear c8 hm8
                go_wp2_with fail
                go_roundg (gk - 1)
                case measure => omega
                case rel => exact ⟨i + 1, _, by omega, rfl, by go_num, HR8⟩
            | true =>
              have A5 : Hid (Below w5.heap.size w5 (w5.alloc (.cells #[.string ky] 9 (0, 0)))) := (Below.refl _ _).alloc (Nat.le_refl _) _
              have O5 : Hid (OwnG KE (w5.alloc (.cells #[.string ky] 9 (0, 0))) w.heap.size 9 u7 (freshP ⟨ch, la, fl⟩ (L.take i))) := I5.out.f.kept A5.out
              have R5 : Hid (RdG KE (w5.alloc (.cells #[.string ky] 9 (0, 0))) (.slice (some ⟨w5.heap.size, 0, none⟩) 1 1) [ky]) := rdG_one (E := KE) w5 9 ky
              have hfl := freshP_len ⟨ch, la, fl⟩ (L.take i)
              rw [List.length_take] at hfl
              have hb1 : Hid (((freshP ⟨ch, la, fl⟩ (L.take i)).length + [ky].length) * 16 ≤ 140737488355328) := (show ((freshP ⟨ch, la, fl⟩ (L.take i)).length + 1) * 16 ≤ 140737488355328 by omega)
              have hb2 : Hid ((freshP ⟨ch, la, fl⟩ (L.take i)).length + [ky].length ≤ maxLen) := (show (freshP ⟨ch, la, fl⟩ (L.take i)).length + 1 ≤ maxLen by simp only [maxLen]; omega)
              have hb3 : Hid (w.heap.size ≤ (w5.alloc (.cells #[.string ky] 9 (0, 0))).heap.size) := (show w.heap.size ≤ _ from Nat.le_trans I5.out.c.size A5.out.size)
              have cB := B5.out.cell (j := 0) rfl
              have HFL := hide hfl
              clear hfl
              go_upto_region 12 with (first
                | (at_builtin; refine wpList_append_G _ rfl _ _ 63 63 rfl w.heap.size 9 (.string ⟨#[]⟩) 16 Tryz.underlying63 Tryz.info9 rfl _ _ rfl O5.out _ [ky] rfl R5.out 9 Tryz.underlying63 hb1.out hb2.out hb3.out ?_; intro v6 w6 o6 g6; have O6 := hide o6; have G6 := hide g6; clear o6 g6)
                | fail)
              obtain ⟨d6, k6, m6, c6, ch6⟩ := (I5.out.kept A5.out).grow HS.out.d.lt (HS.out.lt (.inr (.inl rfl))) (fun b hb => HS.out.lt (.inr (.inr hb))) G6.out
              have D6 := hide d6
              have KK := hide k6
              have M6 := hide m6
              have C6 := hide c6
              have HV6 : Hid (OwnV w6 0 115 vc (ch ky)) := (show OwnV _ _ _ _ _ from (HV5.out.kept A5.out).chg ch6 (fun b hb e => by
                obtain ⟨_, _, cu1, h1⟩ := (HV5.out.kept A5.out).block hb
                obtain ⟨_, _, cu2, h2⟩ := O5.out.block e
                rw [h1] at h2
                cases h2))
              have B6 : Hid (Blk w6 E 51 (PC (ky, va, dd))) := (show Blk _ _ _ _ from (B5.out.kept A5.out).chg ch6 (fun e => by
                obtain ⟨_, _, cu2, h2⟩ := O5.out.block e
                have h1 := B5.out.kept A5.out
                unfold Blk at h1
                rw [h1] at h2
                cases h2))
              have F6 : Hid (OwnG KE w6 w.heap.size 9 v6 (freshP ⟨ch, la, fl⟩ (L.take i) ++ if (ch (ky, va, dd).1).isEmpty = true then [(ky, va, dd).1] else [])) := (show OwnG _ _ _ _ _ _ by
                simp only [HQE.out, if_true]
                exact O6.out)
              clear d6 k6 m6 c6 ch6 cB A5 O5 R5 hb1 hb2 hb3 O6 G6
              refine wp_region_z Tryz.mixed (KS (fun i_ => match i_ with | 0 | 1 | 2 => .val (.pointer (some ⟨D, 0, none⟩)) | 3 => .val (.map (some M)) | 4 => .val (.pointer (some ⟨E, 0, none⟩)) | 5 => .val (.string ky) | 6 => .val (vc) | 7 => .val (.int .i64 n) | 8 => .val (.pointer (some ⟨E, 1, none⟩)) | 9 => .val (.string va) | 10 => .val (.pointer (some ⟨E, 2, none⟩)) | 11 => .val (.bool dd) | 12 => .val (.agg (VC (n, va, dd)).toArray) | 13 | 14 => .of (fun W x => ∃ v', x = .tuple #[v', .bool true] ∧ OwnV W 0 115 v' (ch ky ++ [(n, va, dd)])) (fun _ _ _ hg h => by obtain ⟨v', h1, h2⟩ := h; exact ⟨v', h1, h2.kept hg⟩) | 15 => .of (fun W x => OwnV W 0 115 x (ch ky ++ [(n, va, dd)])) (fun _ _ _ hg h => OwnV.kept h hg) | _ => .free)) (fun W => MapC W M (fun j => if j = ky then ch ky ++ [(n, va, dd)] else addL ch n (L.take i) j) (if (ch ky).isEmpty = true then ks.length + (freshP ⟨ch, la, fl⟩ (L.take i)).length + 1 else ks.length + (freshP ⟨ch, la, fl⟩ (L.take i)).length) ∧ Chg (fun b => b = M) w6 W) 75 rfl (by decide +kernel) 17 (by decide) rfl (KS_mono _) ?_ ?_
              · refine AllFrom.cons ⟨rfl, ?_⟩ (AllFrom.cons ⟨rfl, ?_⟩ (AllFrom.cons ⟨rfl, ?_⟩ (AllFrom.cons ⟨rfl, ?_⟩ (AllFrom.cons ⟨rfl, ?_⟩ (AllFrom.cons ⟨rfl, ?_⟩ (AllFrom.cons ⟨rfl, ?_⟩ (AllFrom.cons ⟨rfl, ?_⟩ (AllFrom.cons ⟨rfl, ?_⟩ (AllFrom.cons ⟨rfl, ?_⟩ (AllFrom.cons ⟨rfl, ?_⟩ (AllFrom.cons ⟨rfl, ?_⟩ (AllFrom.cons ⟨rfl, ?_⟩ (AllFrom.cons ⟨rfl, ?_⟩ (AllFrom.cons ⟨rfl, ?_⟩ (AllFrom.cons ⟨rfl, ?_⟩ (AllFrom.cons ⟨rfl, ?_⟩ (AllFrom.cons ⟨rfl, ?_⟩ AllFrom.nil)))))))))))))))))
                · -- 0: Op.move (Operand.tmp 0)
                  rw [if_neg (by decide)]
                  refine ⟨fun a' w' hg hk hd => ?_, ?_⟩
                  · have e0 : a'.eval (.tmp 0) = .pointer (some ⟨D, 0, none⟩) := hk.at 0 (by decide +kernel)
                    exact wp_value _ (by simp only [execOp, e0]; rfl) (KS_mkv rfl rfl)
                  · exact fun h => absurd h (by decide +kernel)
                · -- 1: Op.nilCheck (Operand.tmp 51)
                  rw [if_neg (by decide)]
                  refine ⟨fun a' w' hg hk hd => ?_, ?_⟩
                  · have e51 : a'.eval (.tmp 51) = .pointer (some ⟨D, 0, none⟩) := KS_val (Deps.val hd 0 51 (by decide +kernel)) rfl
                    clear hd hk
                    exact wp_value (.pointer (some ⟨D, 0, none⟩)) (by simp only [execOp, e51]; go_simp) (KS_mkv rfl rfl)
                  · exact fun h => absurd h (by decide +kernel)
                · -- 2: Op.fieldAddr 55 (Operand.tmp 52) 0
                  rw [if_neg (by decide)]
                  refine ⟨fun a' w' hg hk hd => ?_, ?_⟩
                  · have e52 : a'.eval (.tmp 52) = .pointer (some ⟨D, 0, none⟩) := KS_val (Deps.val hd 1 52 (by decide +kernel)) rfl
                    clear hd hk
                    exact wp_value (.pointer (some ⟨D, 0, none⟩)) (by simp only [execOp, e52]; go_simp) (KS_mkv rfl rfl)
                  · exact fun h => absurd h (by decide +kernel)
                · -- 3: Op.load 53 (Operand.tmp 53)
                  rw [if_neg (by decide)]
                  refine ⟨fun a' w' hg hk hd => ?_, ?_⟩
                  · have e53 : a'.eval (.tmp 53) = .pointer (some ⟨D, 0, none⟩) := KS_val (Deps.val hd 2 53 (by decide +kernel)) rfl
                    have c := (D6.out.kept hg).cell (j := 0) rfl
                    clear hd hk
                    exact wp_value (.map (some M)) (by simp only [execOp, e53]; go_simp) (KS_mkv rfl rfl)
                  · exact fun h => absurd h (by decide +kernel)
                · -- 4: Op.fieldAddr 49 (Operand.tmp 9) 0
                  rw [if_neg (by decide)]
                  refine ⟨fun a' w' hg hk hd => ?_, ?_⟩
                  · have e9 : a'.eval (.tmp 9) = .pointer (some ⟨E, 0, none⟩) := hk.at 9 (by decide +kernel)
                    clear hd hk
                    exact wp_value (.pointer (some ⟨E, 0, none⟩)) (by simp only [execOp, e9]; go_simp) (KS_mkv rfl rfl)
                  · exact fun h => absurd h (by decide +kernel)
                · -- 5: Op.load 9 (Operand.tmp 55)
                  rw [if_neg (by decide)]
                  refine ⟨fun a' w' hg hk hd => ?_, ?_⟩
                  · have e55 : a'.eval (.tmp 55) = .pointer (some ⟨E, 0, none⟩) := KS_val (Deps.val hd 4 55 (by decide +kernel)) rfl
                    have c := (B6.out.kept hg).cell (j := 0) rfl
                    clear hd hk
                    exact wp_value (.string ky) (by simp only [execOp, e55]; go_simp) (KS_mkv rfl rfl)
                  · exact fun h => absurd h (by decide +kernel)
                · -- 6: Op.move (Operand.tmp 10)
                  rw [if_neg (by decide)]
                  refine ⟨fun a' w' hg hk hd => ?_, ?_⟩
                  · have e10 : a'.eval (.tmp 10) = vc := hk.at 10 (by decide +kernel)
                    exact wp_value _ (by simp only [execOp, e10]; rfl) (KS_mkv rfl rfl)
                  · exact fun h => absurd h (by decide +kernel)
                · -- 7: Op.move (Operand.tmp 1)
                  rw [if_neg (by decide)]
                  refine ⟨fun a' w' hg hk hd => ?_, ?_⟩
                  · have e1 : a'.eval (.tmp 1) = .int .i64 n := hk.at 1 (by decide +kernel)
                    exact wp_value _ (by simp only [execOp, e1]; rfl) (KS_mkv rfl rfl)
                  · exact fun h => absurd h (by decide +kernel)
                · -- 8: Op.fieldAddr 49 (Operand.tmp 9) 1
                  rw [if_neg (by decide)]
                  refine ⟨fun a' w' hg hk hd => ?_, ?_⟩
                  · have e9 : a'.eval (.tmp 9) = .pointer (some ⟨E, 0, none⟩) := hk.at 9 (by decide +kernel)
                    clear hd hk
                    exact wp_value (.pointer (some ⟨E, 1, none⟩)) (by simp only [execOp, e9]; go_simp) (KS_mkv rfl rfl)
                  · exact fun h => absurd h (by decide +kernel)
                · -- 9: Op.load 9 (Operand.tmp 59)
                  rw [if_neg (by decide)]
                  refine ⟨fun a' w' hg hk hd => ?_, ?_⟩
                  · have e59 : a'.eval (.tmp 59) = .pointer (some ⟨E, 1, none⟩) := KS_val (Deps.val hd 8 59 (by decide +kernel)) rfl
                    have c := (B6.out.kept hg).cell (j := 1) rfl
                    clear hd hk
                    exact wp_value (.string va) (by simp only [execOp, e59]; go_simp) (KS_mkv rfl rfl)
                  · exact fun h => absurd h (by decide +kernel)
                · -- 10: Op.fieldAddr 49 (Operand.tmp 9) 2
                  rw [if_neg (by decide)]
                  refine ⟨fun a' w' hg hk hd => ?_, ?_⟩
                  · have e9 : a'.eval (.tmp 9) = .pointer (some ⟨E, 0, none⟩) := hk.at 9 (by decide +kernel)
                    clear hd hk
                    exact wp_value (.pointer (some ⟨E, 2, none⟩)) (by simp only [execOp, e9]; go_simp) (KS_mkv rfl rfl)
                  · exact fun h => absurd h (by decide +kernel)
                · -- 11: Op.load 4 (Operand.tmp 61)
                  rw [if_neg (by decide)]
                  refine ⟨fun a' w' hg hk hd => ?_, ?_⟩
                  · have e61 : a'.eval (.tmp 61) = .pointer (some ⟨E, 2, none⟩) := KS_val (Deps.val hd 10 61 (by decide +kernel)) rfl
                    have c := (B6.out.kept hg).cell (j := 2) rfl
                    clear hd hk
                    exact wp_value (.bool dd) (by simp only [execOp, e61]; go_simp) (KS_mkv rfl rfl)
                  · exact fun h => absurd h (by decide +kernel)
                · -- 12: Op.build 76 #[(0, Operand.tmp 58), (1, Operand.tmp 60), (2, 
                  rw [if_neg (by decide)]
                  refine ⟨fun a' w' hg hk hd => ?_, ?_⟩
                  · have e58 : a'.eval (.tmp 58) = .int .i64 n := KS_val (Deps.val hd 7 58 (by decide +kernel)) rfl
                    have e60 : a'.eval (.tmp 60) = .string va := KS_val (Deps.val hd 9 60 (by decide +kernel)) rfl
                    have e62 : a'.eval (.tmp 62) = .bool dd := KS_val (Deps.val hd 11 62 (by decide +kernel)) rfl
                    clear hd hk
                    exact wp_value (.agg (VC (n, va, dd)).toArray) (by simp only [execOp, List.map_toArray, List.map_cons, List.map_nil, e58, e60, e62, hbd, Sem.run_bind, Sem.run_pure, Result.andThen_ok]) (KS_mkv rfl rfl)
                  · exact fun h => absurd h (by decide +kernel)
                · -- 13: Op.call ( callee := Callee.value (Operand.func 40), args := 
                  rw [if_neg (by decide)]
                  refine ⟨fun a' w' hg hk hd => ?_, ?_⟩
                  · have e57 : a'.eval (.tmp 57) = vc := KS_val (Deps.val hd 6 57 (by decide +kernel)) rfl
                    have e63 : a'.eval (.tmp 63) = .agg (VC (n, va, dd)).toArray := KS_val (Deps.val hd 12 63 (by decide +kernel)) rfl
                    refine wp_call 61 _ (run_enter 61 _ _ rfl (by kernel_rfl)) ?_
                    simp only [List.map_toArray, List.map_nil, List.map_cons, e57, e63]
                    refine (put_any (HV6.out.kept hg).rd hclen.out (n, va, dd)).mono ?_
                    rintro e_ w_ ⟨v', rfl, ho, hb⟩
                    have hpo := HPO.out
                    unfold verOf at hpo
                    rw [hpo]
                    rw [putP_ok hpo] at ho
                    exact ⟨_, rfl, KS_mko rfl ⟨v', rfl, ho.mono (Nat.zero_le _)⟩, hb⟩
                  · exact fun h => absurd h (by decide +kernel)
                · -- 14: Op.move (Operand.tmp 64)
                  rw [if_neg (by decide)]
                  refine ⟨fun a' w' hg hk hd => ?_, ?_⟩
                  · have r64 := KS_of (Deps.val hd 13 64 (by decide +kernel)) rfl
                    exact wp_value (a'.eval (.tmp 64)) (by simp only [execOp]; rfl) (KS_mko rfl r64)
                  · exact fun h => absurd h (by decide +kernel)
                · -- 15: Op.extract (Operand.tmp 50) 0
                  rw [if_neg (by decide)]
                  refine ⟨fun a' w' hg hk hd => ?_, ?_⟩
                  · have r50 := KS_of (Deps.val hd 14 50 (by decide +kernel)) rfl
                    obtain ⟨v', h1, h2⟩ := r50
                    exact wp_value v' (by simp only [execOp, h1]; go_simp) (KS_mko rfl h2)
                  · exact fun h => absurd h (by decide +kernel)
                · -- 16: Op.extract (Operand.tmp 50) 1
                  rw [if_neg (by decide)]
                  refine ⟨fun a' w' hg hk hd => ?_, ?_⟩
                  · have r50 := KS_of (Deps.val hd 14 50 (by decide +kernel)) rfl
                    exact wp_value (.bool true) (by obtain ⟨v', h1, h2⟩ := r50; simp only [execOp, h1]; go_simp) (KS_mkf rfl)
                  · intro _ a' w' hk hC hd
                    obtain ⟨W_, hW_⟩ := hd 14 50 (by decide +kernel)
                    obtain ⟨v', h1, h2⟩ := KS_of hW_ rfl
                    exact ⟨.bool true, by simp only [execOp, h1]; go_simp, w', KS_mkf rfl⟩
                · -- 17: Op.mapUpdate 53 (Operand.tmp 54) (Operand.tmp 56) (Operand.t
                  rw [if_pos (by decide)]
                  intro a' w' hg hk hall
                  have e54 : a'.eval (.tmp 54) = .map (some M) := KS_val (hall 3 _ 54 (by decide +kernel) rfl rfl) rfl
                  have e56 : a'.eval (.tmp 56) = .string ky := KS_val (hall 5 _ 56 (by decide +kernel) rfl rfl) rfl
                  have r65 := KS_of (hall 15 _ 65 (by decide +kernel) rfl rfl) rfl
                  generalize hv65 : a'.eval (.tmp 65) = v65 at r65
                  have hm7 := M6.out.kept hg
                  obtain ⟨w8, hrun, hm8, ht8⟩ := hm7.put (by have := HFL.out; omega) ky hks r65 (by simp)
                  rw [hnk.out] at hm8
                  unfold Oper.wp execOp
                  simp only [Sem.run_bind, Sem.run_pure, Result.andThen_ok, e54, e56, hv65, hrun]
                  exact ⟨_, rfl, hm8, (Chg.of_below (show Below w6.heap.size w6 w' from hg)).trans (Chg.turned ht8 rfl)⟩
              · intro a' w8 hsz hdf hk hall hC
                have e51 : a'.eval (.tmp 51) = .pointer (some ⟨D, 0, none⟩) := by obtain ⟨W_, hW_⟩ := hall 0 _ 51 (by decide) rfl rfl; exact KS_val hW_ rfl
                have e52 : a'.eval (.tmp 52) = .pointer (some ⟨D, 0, none⟩) := by obtain ⟨W_, hW_⟩ := hall 1 _ 52 (by decide) rfl rfl; exact KS_val hW_ rfl
                have e53 : a'.eval (.tmp 53) = .pointer (some ⟨D, 0, none⟩) := by obtain ⟨W_, hW_⟩ := hall 2 _ 53 (by decide) rfl rfl; exact KS_val hW_ rfl
                have e54 : a'.eval (.tmp 54) = .map (some M) := by obtain ⟨W_, hW_⟩ := hall 3 _ 54 (by decide) rfl rfl; exact KS_val hW_ rfl
                have e55 : a'.eval (.tmp 55) = .pointer (some ⟨E, 0, none⟩) := by obtain ⟨W_, hW_⟩ := hall 4 _ 55 (by decide) rfl rfl; exact KS_val hW_ rfl
                have e56 : a'.eval (.tmp 56) = .string ky := by obtain ⟨W_, hW_⟩ := hall 5 _ 56 (by decide) rfl rfl; exact KS_val hW_ rfl
                have e57 : a'.eval (.tmp 57) = vc := by obtain ⟨W_, hW_⟩ := hall 6 _ 57 (by decide) rfl rfl; exact KS_val hW_ rfl
                have e58 : a'.eval (.tmp 58) = .int .i64 n := by obtain ⟨W_, hW_⟩ := hall 7 _ 58 (by decide) rfl rfl; exact KS_val hW_ rfl
                have e59 : a'.eval (.tmp 59) = .pointer (some ⟨E, 1, none⟩) := by obtain ⟨W_, hW_⟩ := hall 8 _ 59 (by decide) rfl rfl; exact KS_val hW_ rfl
                have e60 : a'.eval (.tmp 60) = .string va := by obtain ⟨W_, hW_⟩ := hall 9 _ 60 (by decide) rfl rfl; exact KS_val hW_ rfl
                have e61 : a'.eval (.tmp 61) = .pointer (some ⟨E, 2, none⟩) := by obtain ⟨W_, hW_⟩ := hall 10 _ 61 (by decide) rfl rfl; exact KS_val hW_ rfl
                have e62 : a'.eval (.tmp 62) = .bool dd := by obtain ⟨W_, hW_⟩ := hall 11 _ 62 (by decide) rfl rfl; exact KS_val hW_ rfl
                have e63 : a'.eval (.tmp 63) = .agg (VC (n, va, dd)).toArray := by obtain ⟨W_, hW_⟩ := hall 12 _ 63 (by decide) rfl rfl; exact KS_val hW_ rfl
                obtain ⟨x64, e64⟩ : ∃ v, a'.eval (.tmp 64) = v := ⟨_, rfl⟩
                obtain ⟨x50, e50⟩ : ∃ v, a'.eval (.tmp 50) = v := ⟨_, rfl⟩
                obtain ⟨x65, e65⟩ : ∃ v, a'.eval (.tmp 65) = v := ⟨_, rfl⟩
                obtain ⟨x66, e66⟩ : ∃ v, a'.eval (.tmp 66) = v := ⟨_, rfl⟩
                have ha := act_puts 75 rfl hsz hdf hk [51, 52, 53, 54, 55, 56, 57, 58, 59, 60, 61, 62, 63, 64, 50, 65, 66] (by decide +kernel)
                simp only [puts, List.foldl_cons, List.foldl_nil, e51, e52, e53, e54, e55, e56, e57, e58, e59, e60, e61, e62, e63, e64, e50, e65, e66] at ha
                simp only [Act.put, List.setIfInBounds_toArray, List.set_cons_succ, List.set_cons_zero] at ha
                clear hall hk hsz hdf e51 e52 e53 e54 e55 e56 e57 e58 e59 e60 e61 e62 e63 e64 e50 e65 e66
                subst ha
                obtain ⟨hm8, c8⟩ := hC
                have hMD : D ≠ M := HS.out.ne
                have HR8 : Hid (InsI w D M vk ks ch la fl n (L.take (i + 1)) v6 w8) := (show InsI _ _ _ _ _ _ _ _ _ _ _ _ by
                  rw [htk.out]
                  refine HR.out.step (p := (ky, va, dd)) hnk.out (C6.out.trans c8) (D6.out.chg c8 (fun e => hMD e)) (KK.out.chg c8 (fun b hb e => (HS.out.kd hb).2 e)) ?_ ?_
                  · rw [hnk.out]
                    exact hm8
                  · refine OwnG.chg F6.out c8 (fun b hb e => ?_)
                    have := (OwnG.block F6.out hb).1
                    have := HS.out.lt (b := M) (.inr (.inl rfl))
                    omega)
                clear c8 hm8
                go_wp2_with fail
                go_roundg (gk - 1)
                case measure => omega
                case rel => exact ⟨i + 1, _, by omega, rfl, by go_num, HR8⟩
        · obtain rfl : i = m := by omega
          have q2 : ¬ (i : Int) < (i : Int) := by omega
          have hall : L.take i = L := List.take_of_length_le (by rw [HM.out]; exact Nat.le_refl _)
          rw [hall] at HR
          clear hall
          have hsl := goodP_srt HQ.out
          have hgA := hide (addKeys_any HR.out.d HR.out.k HR.out.f.rd HS.out.inv.srt (fresh_srt (s := ⟨ch, la, fl⟩) hsl) (fun x hx hk => (HS.out.inv.mem x).1 hk (mem_fresh.1 hx).2) (fun b hb => by
            have h1 := (HR.out.f.block (inB_own hb)).1
            refine ⟨fun e => ?_, fun e => ?_⟩
            · have := HS.out.lt (b := D) (.inl rfl); omega
            · have := HS.out.lt (b := b) (.inr (.inr e)); omega) (by have := freshP_len ⟨ch, la, fl⟩ L; rw [HM.out] at this; omega))
          go_wp2_with fail
          refine hgA.out.mono ?_
          rintro e w9 ⟨vk', K', rfl, hd9, hk9, hs9, hm9, hl9, hc9, hb9⟩
          have hDM : D ≠ M := HS.out.ne
          have c2' := hd9.cell (j := 2) rfl
          have f2' := hd9.frozen 2
          have HD9 := hide hd9
          have HC9 := hide hc9
          have HM9 : Hid (MapC w9 M (addL ch n L) K'.length) := (show MapC _ _ _ _ by
            rw [hl9]
            refine HR.out.m.chg hc9 (fun e => ?_) (fun b cur hb e => ?_)
            · rcases e with e | e
              · exact hDM e.symm
              · exact (HS.out.kd e).2 rfl
            · rcases e with rfl | e
              · have := HR.out.d
                unfold Blk at this
                rw [hb] at this
                cases this
              · obtain ⟨_, _, cu, h1⟩ := HR.out.k.block e
                rw [hb] at h1
                cases h1)
          have hk9' := hide hk9
          have HR9 := hide (And.intro hs9 (And.intro hm9 hb9))
          have HL9 := hide hl9
          clear hd9 hk9 hs9 hm9 hl9 hc9 hb9 hgA hsl
          go_wp2_with fail
          go_ret
          obtain ⟨hs9, hm9, hb9⟩ := HR9.out
          have hset := HD9.out.set 2 (.int .i64 n)
          have hcs : Chg (fun b => b = D) w9 (w9.setCell ⟨D, 2, none⟩ (.int .i64 n)) := Chg.setCell (F := fun b => b = D) _ (b := D) rfl 2 _
          refine ⟨by rw [← HER.out, HI2.out]; rfl, vk', K', ?_, by rw [HL9.out]; have := freshP_len ⟨ch, la, fl⟩ L; rw [HM.out] at this; omega, ?_, fun b hb => ?_⟩
          · rw [← HS'.out]
            unfold instP
            rw [HI2.out, if_pos rfl]
            obtain rfl : n = la + 1 := HAT.out
            have hinv := inst_inv HS.out.inv HQ.out hs9 hm9
            refine ⟨hset, HM9.out.chg hcs (fun e => hDM e.symm) (fun b cur hb e => ?_), hk9'.out.chg hcs (fun b hb e => ?_), hinv, fun k hk => ?_⟩
            · have := HD9.out
              unfold Blk at this
              rw [← e, hb] at this
              cases this
            · obtain ⟨_, _, cu, h1⟩ := hk9'.out.block hb
              have := HD9.out
              unfold Blk at this
              rw [← e, h1] at this
              cases this
            · rcases (hm9 k).1 hk with h | h
              · exact HS.out.sz k h
              · obtain ⟨p, hp, rfl⟩ := List.mem_map.1 (mem_fresh.1 h).1
                exact (goodP_at HQ.out p hp).2.1
          · refine ((HR.out.c.mono (fun b _ e => .inr (.inl e))).then HC9.out (fun b _ e => ?_)).then hcs (fun b _ e => .inl e)
            rcases e with e | e
            · exact .inl e
            · exact .inr (.inr e)
          · rcases hb9 b hb with h | h
            · exact .inl h
            · exact .inr (Nat.le_trans HR.out.c.size h)
    · have HI2 : Hid (instOk ⟨ch, la, fl⟩ n L = false) := (show _ = _ by rw [HI.out, decide_eq_false hat]; rfl)
      go_wp2_with fail
      go_ret
      refine ⟨by rw [← HER.out, HI2.out]; rfl, vk, ks, ?_, by omega, Chg.of_below L1.out, fun b hb => .inl hb⟩
      rw [← HS'.out]
      unfold instP
      rw [HI2.out]
      exact HS.out.kept L1.out
end Go.Proofs.YtcicekggeampcaaGreat

/-
  Get: what the call does.
-/
namespace Go.Proofs.YtcicekggeampcaaGreat
open Go.RowKit
set_option maxRecDepth 100000 in
set_option maxHeartbeats 1000000 in
theorem sGet_any {w : World} {D M : Nat} {vk : Value} {ks : List ByteArray} {s : SP} (h : StAt w D M vk ks s) (hla : s.last ≤ 1000000) (k : ByteArray) (hk : k.size ≤ maxLen) (n : Int) :
    Calls Tryz.prog 47 #[.pointer (some ⟨D, 0, none⟩), .string k, .int .i64 n] w fun e w' => e = .returned (.tuple #[.string (getS s k n).1, .int .i64 (getS s k n).2]) ∧ Below w.heap.size w w' := by
  have HS := hide h
  obtain ⟨ch, la, fl⟩ := s
  simp only at hla
  have hz := Zver
  obtain ⟨vc, hvc, -, hlk⟩ := h.mp.look_all k hk
  have HVC := hide hvc
  have hlk' := hlk w (Below.refl _ _)
  simp only at HVC
  obtain ⟨r1, r2, HR⟩ : ∃ x y, Hid (getS ⟨ch, la, fl⟩ k n = (x, y)) := ⟨_, _, rfl⟩
  rw [HR.out]
  simp only
  obtain ⟨r, Hr⟩ : ∃ r, Hid (smayP ⟨ch, la, fl⟩ n = r) := ⟨_, rfl⟩
  have hlen : Hid ((ch k).length ≤ 4398046511104) := (show (ch k).length ≤ 4398046511104 by have h2 : ((ch k).length : Int) ≤ la := HS.out.inv.len k; omega)
  have c0 := h.d.cell (j := 0) rfl
  have L0 : Hid (Below w.heap.size w w) := Below.refl _ _
  have HG : Hid (getS ⟨ch, la, fl⟩ k n = if r = 0 then (if (getP (ch k) n).2 = true then ((getP (ch k) n).1.2.1, 0) else (em, 8)) else (em, r)) := (show _ = _ by unfold getS; rw [Hr.out])
  clear h hvc hlk
  go_enter Tryz.func47, Tryz.ntmps47
  go_wp2_with fail
  refine (sAsked_any ch HS.out.d n).mono ?_
  rintro e w1 ⟨rfl, hw⟩
  rw [Hr.out]
  subst w1
  by_cases hr : r = 0
  · subst hr
    obtain ⟨gv, gb, Hg⟩ : ∃ x y, Hid (getP (ch k) n = (x, y)) := ⟨_, _, rfl⟩
    have HC : Hid (Calls Tryz.prog 78 #[vc, .int .i64 n] w fun e w' => e = .returned (.tuple #[.agg (VC gv).toArray, .bool gb]) ∧ Below w.heap.size w w') := (show Calls _ _ _ _ _ by have := get_any HVC.out.rd hlen.out n; rw [Hg.out] at this; exact this)
    go_wp2_with fail
    refine (HC.out).mono ?_
    rintro e w2a ⟨rfl, hb⟩
    have Lw2a : Hid (Below w.heap.size w w2a) := L0.out.trans (hb.mono L0.out.size)
    have Dw2a : Hid (Below w.heap.size w w2a) := hb
    clear hb
    go_upto_region 5 with (first
      | (refine wpList_store_new rfl 115 _ _ rfl w2a _ (VC gv).toArray _ rfl rfl rfl Tryz.size115 rfl (all_one (VC_one gv)) ?_)
      | fail)
    obtain ⟨E2, HE2⟩ : ∃ E, Hid (w2a.heap.size = E) := ⟨_, rfl⟩
    rw [HE2.out]
    obtain ⟨w2, hw⟩ : ∃ y, y = w2a.alloc (.cells (VC gv).toArray 115 (0, 0)) := ⟨_, rfl⟩
    rw [← hw]
    have Dw2b : Hid (Below w2a.heap.size w2a w2) := (show Below _ _ _ by rw [hw]; exact (Below.refl _ _).alloc (Nat.le_refl _) _)
    have L2 : Hid (Below w.heap.size w w2) := Lw2a.out.trans (Dw2b.out.mono Lw2a.out.size)
    have Dw2 : Hid (Below w.heap.size w w2) := Dw2a.out.trans (Dw2b.out.mono Dw2a.out.size)
    have BE2 : Hid (Blk w2 E2 115 (VC gv)) := (show Blk _ _ _ _ by rw [hw, ← HE2.out]; exact Blk.new w2a 115 (VC gv))
    clear hw Dw2a Dw2b Lw2a
    rw [Hg.out, HR.out, if_pos trivial] at HG
    obtain ⟨gp, gs, gd'⟩ := gv
    have c1 := BE2.out.cell (j := 1) rfl
    cases gb with
    | true =>
      have h1 : r1 = gs := by have := HG.out; simp at this; exact this.1
      have h2 : r2 = 0 := by have := HG.out; simp at this; exact this.2
      subst h1 h2
      go_wp2_with fail
      go_ret2
      exact ⟨rfl, L2.out⟩
    | false =>
      have h1 : r1 = em := by have := HG.out; simp at this; exact this.1
      have h2 : r2 = 8 := by have := HG.out; simp at this; exact this.2
      subst h1 h2
      go_wp2_with fail
      go_ret2
      exact ⟨rfl, L2.out⟩
  · have hr' : decide (r = 0) = false := by simp [hr]
    rw [HR.out, if_neg hr] at HG
    have h1 : r1 = em := by have := HG.out; simp at this; exact this.1
    have h2 : r2 = r := by have := HG.out; simp at this; exact this.2
    subst h1 h2
    go_wp2_with fail
    go_ret2
    exact ⟨rfl, L0.out⟩
end Go.Proofs.YtcicekggeampcaaGreat
