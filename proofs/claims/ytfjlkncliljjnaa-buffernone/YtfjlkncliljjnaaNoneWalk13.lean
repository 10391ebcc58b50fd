/-
  BufferNone: what the call does.
-/
import Derived.Test.YtfjlkncliljjnaaBfY
import Derived.Test.YtfjlkncliljjnaaBfA
import Derived.Test.YtfjlkncliljjnaaBfE
import Derived.Test.YtfjlkncliljjnaaBfSm
namespace Go.Proofs.Ytfjlkncliljjnaa
open Go.RowKit
theorem wpList_indexK {P : Program} {ops : Array Oper} {rest : List Oper} {op : Oper} {a : Act} {w : World} {Q : Exit → Act → World → Prop} (hgd : op.guard = none) (t : TypeId) (x y : Operand) (_ : op.op = .index t x y) (v : Value)
    (hrun : (execOp a.eval op).run P w = .ok (.value v) w) (h : wpList P ops Q rest (a.put op.dst v) w) : wpList P ops Q (op :: rest) a w := by
  refine wpList_plain hgd fun K hK => ?_
  unfold Oper.wp
  rw [hrun]
  exact hK _ _ h
theorem build_act1 (p : Pr) (w : World) : (Instr.buildSlice 22 1 #[(0, .agg (PC p).toArray)]).run Try.prog w = .ok (.slice (some ⟨w.heap.size, 0, none⟩) 1 1) (w.alloc (.cells (PC p).toArray 32 (0, 0))) := by kernel_rfl
theorem wpList_build_act {ops : Array Oper} {rest : List Oper} {o : Oper} {a : Act} {w : World} {Q : Exit → Act → World → Prop} (hgd : o.guard = none) (x : Operand) (ho : o.op = .buildSlice 22 1 #[(0, x)]) (p : Pr) (hx : a.eval x = .agg (PC p).toArray)
    (h : wpList Try.prog ops Q rest (a.put o.dst (.slice (some ⟨w.heap.size, 0, none⟩) 1 1)) (w.alloc (.cells (PC p).toArray 32 (0, 0)))) : wpList Try.prog ops Q (o :: rest) a w := by
  refine wpList_plain hgd fun K hK => ?_
  have hr := build_act1 p w
  unfold Oper.wp execOp
  simp only [ho, hx, hr, List.map_toArray, List.map_cons, List.map_nil, Sem.run_bind, Sem.run_pure, Result.andThen_ok]
  exact hK _ _ h
theorem inR_all (p : Pr) (h : lt p.1 tZ = true) : inR em tZ p = true := by simp [inR, not_lt_em, h]
set_option maxHeartbeats 8000000 in
set_option maxRecDepth 100000 in
theorem bufferNone_any {w : World} {x : Pr} (ox : PrOk x) {vl : Value} {l : List Pr} (hl : RdG PE w vl l) (ol : ∀ y ∈ l, PrOk y) :
    Calls Try.prog 7 #[.agg (PC x).toArray, vl] w fun e w' => e = .returned (.bool true) ∧ Below w.heap.size w w' := by
  have za := Zact
  have zp' := Zpair
  have HLl := hide hl
  have OL := hide ol
  have OX := hide ox
  obtain ⟨al, cl, rfl⟩ := hl.slice
  obtain ⟨nl, HNl⟩ : ∃ n, Hid (l.length = n) := ⟨_, rfl⟩
  obtain ⟨N, HNw⟩ : ∃ N, Hid (w.heap.size = N) := ⟨_, rfl⟩
  rw [HNl.out] at HLl ⊢
  rw [HNw.out]
  clear hl ol ox
  obtain ⟨w1, hw1⟩ : ∃ z, z = w.alloc (.cells (PC x).toArray 32 (0, 0)) := ⟨_, rfl⟩
  obtain ⟨w2, hw2⟩ : ∃ z, z = w1.alloc (.cells (PC x).toArray 32 (0, 0)) := ⟨_, rfl⟩
  have B1 : Blk w1 N 32 (PC x) := by rw [hw1, ← HNw.out]; exact Blk.new w 32 (PC x)
  have hb1 : Below w.heap.size w w1 := by rw [hw1]; exact (Below.refl _ _).alloc (Nat.le_refl _) _
  have hb2 : Below w1.heap.size w1 w2 := by rw [hw2]; exact (Below.refl _ _).alloc (Nat.le_refl _) _
  have R2 : RdG PE w2 (.slice (some ⟨w1.heap.size, 0, none⟩) 1 1) [x] := by rw [hw2]; exact rdG_one (E := PE) w1 32 x
  have XX := hide (B1.kept hb2)
  have BX := hide B1
  have L2 : Hid (Below N w w2) := (show _ by rw [← HNw.out]; exact hb1.trans (hb2.mono hb1.size))
  have HLI := hide (light_any R2 (HLl.out.kept (L2.out.mono (Nat.le_of_eq HNw.out))) (fun y hy => by rw [List.mem_singleton.1 hy]; exact OX.out) OL.out)
  have HW1 := hide hw1
  have HW2 := hide hw2
  clear B1 hb1 hb2 R2 hw1 hw2
  go_enter Try.func7, Try.ntmps7
  go_upto_region 1 with fail
  change Code.wp _ _ _ _ (w.alloc (.cells (PC x).toArray 32 (0, 0)))
  rw [← HW1.out, HNw.out]
  go_wp2_with (first
    | (refine wpList_load_mid rfl 32 _ rfl N 0 rfl (PC x) _ BX.out.range0 Try.underlying32 rfl Try.size32 ?_)
    | (refine wpList_build_act rfl _ rfl x rfl ?_; rw [← HW2.out])
    | fail)
  refine HLI.out.mono ?_
  rintro e w3 ⟨b, rfl, hb3, hb4⟩
  have L3 : Hid (Below N w w3) := (show _ from L2.out.trans (hb3.mono (by have := L2.out.size; have := HNw.out; omega)))
  have X3 := hide (XX.out.kept hb3)
  have CLV := hide (lives_any w3)
  clear HLI hb3 XX BX HW1 HW2 L2
  have LV : Hid (∀ w2, Below w3.heap.size w3 w2 → Below N w w2) := (show ∀ w2, Below w3.heap.size w3 w2 → Below N w w2 from fun w2 h => L3.out.trans (h.mono (by have := L3.out.size; have := HNw.out; omega)))
  cases b with
  | false =>
    go_wp2_with fail
    refine CLV.out.mono ?_
    rintro e w2 ⟨rfl, hb2⟩
    have HB := hide hb2
    clear hb2
    go_wp2_with fail
    go_ret
    exact ⟨rfl, LV.out _ HB.out⟩
  | true =>
    have hnl : nl ≤ 150 := by have := (hb4 rfl).2; rw [HNl.out] at this; exact this
    have CR := hide (rises_any (HLl.out.kept (L3.out.mono (Nat.le_of_eq HNw.out))))
    clear hb4 CLV
    go_wp2_with fail
    refine CR.out.mono ?_
    rintro e w4 ⟨br, rfl, hb4, hrs⟩
    have L4 : Hid (Below N w w4) := (show _ from LV.out _ hb4)
    have X4 := hide (X3.out.kept hb4)
    have CLV := hide (lives_any w4)
    clear hb4 CR LV L3 hrs X3
    have LV : Hid (∀ w2, Below w4.heap.size w4 w2 → Below N w w2) := (show ∀ w2, Below w4.heap.size w4 w2 → Below N w w2 from fun w2 h => L4.out.trans (h.mono (by have := L4.out.size; have := HNw.out; omega)))
    cases br with
    | false =>
      go_wp2_with fail
      refine CLV.out.mono ?_
      rintro e w2 ⟨rfl, hb2⟩
      have HB := hide hb2
      clear hb2
      go_wp2_with fail
      go_ret
      exact ⟨rfl, LV.out _ HB.out⟩
    | true =>
      obtain ⟨E, HE⟩ : ∃ E, Hid (w4.heap.size = E) := ⟨_, rfl⟩
      obtain ⟨w5, hw5⟩ : ∃ z, z = w4.alloc (.cells #[.map none] 55 (0, 0)) := ⟨_, rfl⟩
      have hb5 : Below w4.heap.size w4 w5 := by rw [hw5]; exact (Below.refl _ _).alloc (Nat.le_refl _) _
      have U5 : Hid (Blk w5 E 55 [.map none]) := (show Blk _ _ _ _ by rw [hw5, ← HE.out]; exact Blk.new w4 55 [.map none])
      have X5 := hide (X4.out.kept hb5)
      have L5 : Hid (Below N w w5) := (show _ from LV.out _ hb5)
      have zb : ∀ W : World, (zeroValue 55).run Try.prog W = .ok (.agg #[.map none]) W := fun W => by kernel_rfl
      have HW5 := hide hw5
      clear hb5 hw5 X4 L4 LV CLV
      go_upto_region 4 with fail
      rw [← HW5.out, HE.out]
      go_wp2_with (first
        | (refine wpList_buildK rfl 56 _ rfl (.agg #[.pointer none, PT E]) (by kernel_rfl) ?_)
        | fail)
      go_loopg [22] 3 (fun g z wr => ∃ (i : Nat), i ≤ 2 ∧ g + i = 3 ∧ z = .int .i64 (i : Int) ∧ Hid (Blk wr N 32 (PC x)) ∧ Hid (Blk wr E 55 [.map none]) ∧ Hid (Below N w wr))
      case atStart => exact ⟨0, by omega, by omega, rfl, X5, U5, L5⟩
      case round =>
        clear X5 U5 L5
        obtain ⟨i, hi, hgi, rfl, XX, UU, LL⟩ := hrel
        rcases (show i = 0 ∨ i = 1 ∨ i = 2 by omega) with rfl | rfl | rfl
        · have UN6 : Hid (Un wr (.pointer none)) := (show Un _ _ from .inl rfl)
          have X6 := XX
          have U6 := UU
          have L6 := LL
          clear XX UU LL
          have ck := X6.out.key
          have CG := hide (uGet_any UN6.out x.1)
          go_upto_region 7 with (first
            | (refine wpList_indexK rfl 56 _ _ rfl (.pointer none) (by kernel_rfl) ?_)
            | fail)
          go_wp2_with fail
          refine CG.out.mono ?_
          rintro e w7 ⟨rfl, hb7⟩
          clear ck CG
          have X7 := hide (X6.out.kept hb7)
          have UN7 := hide (UN6.out.kept hb7)
          have U7 := hide (U6.out.kept hb7)
          have L7 : Hid (Below N w w7) := (show _ from L6.out.trans (hb7.mono (by have := L6.out.size; have := HNw.out; omega)))
          clear hb7 X6 UN6 U6 L6
          obtain ⟨E8, HE8⟩ : ∃ E, Hid (w7.heap.size = E) := ⟨_, rfl⟩
          obtain ⟨w8, hw8⟩ : ∃ z, z = w7.alloc (.cells (PC zp).toArray 38 (0, 0)) := ⟨_, rfl⟩
          have hb8 : Below w7.heap.size w7 w8 := by rw [hw8]; exact (Below.refl _ _).alloc (Nat.le_refl _) _
          have HW8 := hide hw8
          clear hw8
          have X8 := hide (X7.out.kept hb8)
          have UN8 := hide (UN7.out.kept hb8)
          have U8 := hide (U7.out.kept hb8)
          have L8 : Hid (Below N w w8) := (show _ from L7.out.trans (hb8.mono (by have := L7.out.size; have := HNw.out; omega)))
          clear hb8 X7 UN7 U7 L7
          have ck := X8.out.key
          have cv := X8.out.val
          have CP := hide (uPut_any UN8.out x.1 x.2.1)
          go_upto_region 8 with (first
            | (refine wpList_store_new rfl 38 _ _ rfl w7 _ (PC zp).toArray _ rfl rfl rfl Try.size38 rfl (all_one (PC_one zp)) ?_; rw [← HW8.out])
            | fail)
          try simp only [Act.put]
          go_wp2_with fail
          refine CP.out.mono ?_
          rintro e w9 ⟨rfl, hb9⟩
          clear ck cv CP HW8
          have X9 := hide (X8.out.kept hb9)
          have UN9 := hide (UN8.out.kept hb9)
          have U9 := hide (U8.out.kept hb9)
          have L9 : Hid (Below N w w9) := (show _ from L8.out.trans (hb9.mono (by have := L8.out.size; have := HNw.out; omega)))
          clear hb9 X8 UN8 U8 L8
          have ck := X9.out.key
          have CD := hide (uDrop_any UN9.out x.1)
          go_wp2_with fail
          refine CD.out.mono ?_
          rintro e w10 ⟨rfl, hb10⟩
          clear ck CD
          have X10 := hide (X9.out.kept hb10)
          have UN10 := hide (UN9.out.kept hb10)
          have U10 := hide (U9.out.kept hb10)
          have L10 : Hid (Below N w w10) := (show _ from L9.out.trans (hb10.mono (by have := L9.out.size; have := HNw.out; omega)))
          clear hb10 X9 UN9 U9 L9
          have CW := hide (uWrites_any UN10.out)
          go_wp2_with fail
          refine CW.out.mono ?_
          rintro e w_ ⟨rfl, hw_⟩
          subst w_
          have CN := hide (uLen_any UN10.out)
          clear CW
          go_wp2_with fail
          refine CN.out.mono ?_
          rintro e w_ ⟨rfl, hw_⟩
          subst w_
          have CO := hide (over_any UN10.out.ov (HLl.out.kept (L10.out.mono (Nat.le_of_eq HNw.out))) ⟨#[]⟩ ⟨#[122]⟩ 1000 (by rw [HNl.out]; simp; omega))
          clear CN
          go_wp2_with fail
          refine CO.out.mono ?_
          rintro e w11 ⟨v11, rfl, o11, hb11⟩
          have O11 := hide o11
          obtain ⟨pa, pc, rfl⟩ := o11.form
          obtain ⟨T, HT⟩ : ∃ T, Hid (overB l [] ⟨#[]⟩ ⟨#[122]⟩ 1000 = T) := ⟨_, rfl⟩
          rw [HT.out] at O11 ⊢
          obtain ⟨tn, HTn⟩ : ∃ n, Hid (T.length = n) := ⟨_, rfl⟩
          rw [HTn.out] at O11 ⊢
          clear CO o11
          have X11 := hide (X10.out.kept hb11)
          have UN11 := hide (UN10.out.kept hb11)
          have U11 := hide (U10.out.kept hb11)
          have L11 : Hid (Below N w w11) := (show _ from L10.out.trans (hb11.mono (by have := L10.out.size; have := HNw.out; omega)))
          clear hb11 X10 UN10 U10 L10
          have CV := hide (rOverlay_any (HLl.out.kept (L11.out.mono (Nat.le_of_eq HNw.out))) (RdG_nil w11) (by rw [HNl.out]; simp; omega))
          go_wp2_with fail
          refine CV.out.mono ?_
          rintro e w12 ⟨v12, rfl, o12, hb12⟩
          have O12 := hide o12
          have R11 := hide (O11.out.rd.kept hb12)
          obtain ⟨pb, pd, rfl⟩ := o12.form
          have CS := vsame_any R11.out o12.rd
          have HEQ : T = ovl l [] := by
            rw [← HT.out]
            show (ovl l []).take 1000 = _
            refine List.take_of_length_le ?_
            have := ovl_len l []
            rw [HNl.out] at this
            simp at this
            omega
          rw [decide_eq_true HEQ] at CS
          have HCS := hide CS
          obtain ⟨un, HUn⟩ : ∃ n, Hid ((ovl l []).length = n) := ⟨_, rfl⟩
          rw [HUn.out] at HCS ⊢
          clear CV CS HEQ o12 O11 O12 R11
          have X12 := hide (X11.out.kept hb12)
          have UN12 := hide (UN11.out.kept hb12)
          have U12 := hide (U11.out.kept hb12)
          have L12 : Hid (Below N w w12) := (show _ from L11.out.trans (hb12.mono (by have := L11.out.size; have := HNw.out; omega)))
          clear hb12 X11 UN11 U11 L11
          go_wp2_with fail
          refine HCS.out.mono ?_
          rintro e w13 ⟨rfl, hb13⟩
          clear HCS
          have X13 := hide (X12.out.kept hb13)
          have UN13 := hide (UN12.out.kept hb13)
          have U13 := hide (U12.out.kept hb13)
          have L13 : Hid (Below N w w13) := (show _ from L12.out.trans (hb13.mono (by have := L12.out.size; have := HNw.out; omega)))
          clear hb13 X12 UN12 U12 L12
          clear UN13
          go_wp2_with fail
          go_roundg (2 - 0)
          case measure => omega
          case rel => exact ⟨1, by omega, by omega, by go_num, X13, U13, L13⟩
        · have UN6 : Hid (Un wr (PT E)) := (show Un _ _ from .inr ⟨E, rfl, UU.out⟩)
          have X6 := XX
          have U6 := UU
          have L6 := LL
          clear XX UU LL
          have ck := X6.out.key
          have CG := hide (uGet_any UN6.out x.1)
          go_upto_region 7 with (first
            | (refine wpList_indexK rfl 56 _ _ rfl (PT E) (by kernel_rfl) ?_)
            | fail)
          go_wp2_with fail
          refine CG.out.mono ?_
          rintro e w7 ⟨rfl, hb7⟩
          clear ck CG
          have X7 := hide (X6.out.kept hb7)
          have UN7 := hide (UN6.out.kept hb7)
          have U7 := hide (U6.out.kept hb7)
          have L7 : Hid (Below N w w7) := (show _ from L6.out.trans (hb7.mono (by have := L6.out.size; have := HNw.out; omega)))
          clear hb7 X6 UN6 U6 L6
          obtain ⟨E8, HE8⟩ : ∃ E, Hid (w7.heap.size = E) := ⟨_, rfl⟩
          obtain ⟨w8, hw8⟩ : ∃ z, z = w7.alloc (.cells (PC zp).toArray 38 (0, 0)) := ⟨_, rfl⟩
          have hb8 : Below w7.heap.size w7 w8 := by rw [hw8]; exact (Below.refl _ _).alloc (Nat.le_refl _) _
          have HW8 := hide hw8
          clear hw8
          have X8 := hide (X7.out.kept hb8)
          have UN8 := hide (UN7.out.kept hb8)
          have U8 := hide (U7.out.kept hb8)
          have L8 : Hid (Below N w w8) := (show _ from L7.out.trans (hb8.mono (by have := L7.out.size; have := HNw.out; omega)))
          clear hb8 X7 UN7 U7 L7
          have ck := X8.out.key
          have cv := X8.out.val
          have CP := hide (uPut_any UN8.out x.1 x.2.1)
          go_upto_region 8 with (first
            | (refine wpList_store_new rfl 38 _ _ rfl w7 _ (PC zp).toArray _ rfl rfl rfl Try.size38 rfl (all_one (PC_one zp)) ?_; rw [← HW8.out])
            | fail)
          try simp only [Act.put]
          go_wp2_with fail
          refine CP.out.mono ?_
          rintro e w9 ⟨rfl, hb9⟩
          clear ck cv CP HW8
          have X9 := hide (X8.out.kept hb9)
          have UN9 := hide (UN8.out.kept hb9)
          have U9 := hide (U8.out.kept hb9)
          have L9 : Hid (Below N w w9) := (show _ from L8.out.trans (hb9.mono (by have := L8.out.size; have := HNw.out; omega)))
          clear hb9 X8 UN8 U8 L8
          have ck := X9.out.key
          have CD := hide (uDrop_any UN9.out x.1)
          go_wp2_with fail
          refine CD.out.mono ?_
          rintro e w10 ⟨rfl, hb10⟩
          clear ck CD
          have X10 := hide (X9.out.kept hb10)
          have UN10 := hide (UN9.out.kept hb10)
          have U10 := hide (U9.out.kept hb10)
          have L10 : Hid (Below N w w10) := (show _ from L9.out.trans (hb10.mono (by have := L9.out.size; have := HNw.out; omega)))
          clear hb10 X9 UN9 U9 L9
          have CW := hide (uWrites_any UN10.out)
          go_wp2_with fail
          refine CW.out.mono ?_
          rintro e w_ ⟨rfl, hw_⟩
          subst w_
          have CN := hide (uLen_any UN10.out)
          clear CW
          go_wp2_with fail
          refine CN.out.mono ?_
          rintro e w_ ⟨rfl, hw_⟩
          subst w_
          have CO := hide (over_any UN10.out.ov (HLl.out.kept (L10.out.mono (Nat.le_of_eq HNw.out))) ⟨#[]⟩ ⟨#[122]⟩ 1000 (by rw [HNl.out]; simp; omega))
          clear CN
          go_wp2_with fail
          refine CO.out.mono ?_
          rintro e w11 ⟨v11, rfl, o11, hb11⟩
          have O11 := hide o11
          obtain ⟨pa, pc, rfl⟩ := o11.form
          obtain ⟨T, HT⟩ : ∃ T, Hid (overB l [] ⟨#[]⟩ ⟨#[122]⟩ 1000 = T) := ⟨_, rfl⟩
          rw [HT.out] at O11 ⊢
          obtain ⟨tn, HTn⟩ : ∃ n, Hid (T.length = n) := ⟨_, rfl⟩
          rw [HTn.out] at O11 ⊢
          clear CO o11
          have X11 := hide (X10.out.kept hb11)
          have UN11 := hide (UN10.out.kept hb11)
          have U11 := hide (U10.out.kept hb11)
          have L11 : Hid (Below N w w11) := (show _ from L10.out.trans (hb11.mono (by have := L10.out.size; have := HNw.out; omega)))
          clear hb11 X10 UN10 U10 L10
          have CV := hide (rOverlay_any (HLl.out.kept (L11.out.mono (Nat.le_of_eq HNw.out))) (RdG_nil w11) (by rw [HNl.out]; simp; omega))
          go_wp2_with fail
          refine CV.out.mono ?_
          rintro e w12 ⟨v12, rfl, o12, hb12⟩
          have O12 := hide o12
          have R11 := hide (O11.out.rd.kept hb12)
          obtain ⟨pb, pd, rfl⟩ := o12.form
          have CS := vsame_any R11.out o12.rd
          have HEQ : T = ovl l [] := by
            rw [← HT.out]
            show (ovl l []).take 1000 = _
            refine List.take_of_length_le ?_
            have := ovl_len l []
            rw [HNl.out] at this
            simp at this
            omega
          rw [decide_eq_true HEQ] at CS
          have HCS := hide CS
          obtain ⟨un, HUn⟩ : ∃ n, Hid ((ovl l []).length = n) := ⟨_, rfl⟩
          rw [HUn.out] at HCS ⊢
          clear CV CS HEQ o12 O11 O12 R11
          have X12 := hide (X11.out.kept hb12)
          have UN12 := hide (UN11.out.kept hb12)
          have U12 := hide (U11.out.kept hb12)
          have L12 : Hid (Below N w w12) := (show _ from L11.out.trans (hb12.mono (by have := L11.out.size; have := HNw.out; omega)))
          clear hb12 X11 UN11 U11 L11
          go_wp2_with fail
          refine HCS.out.mono ?_
          rintro e w13 ⟨rfl, hb13⟩
          clear HCS
          have X13 := hide (X12.out.kept hb13)
          have UN13 := hide (UN12.out.kept hb13)
          have U13 := hide (U12.out.kept hb13)
          have L13 : Hid (Below N w w13) := (show _ from L12.out.trans (hb13.mono (by have := L12.out.size; have := HNw.out; omega)))
          clear hb13 X12 UN12 U12 L12
          clear UN13
          go_wp2_with fail
          go_roundg (2 - 1)
          case measure => omega
          case rel => exact ⟨2, by omega, by omega, by go_num, X13, U13, L13⟩
        · have CLV := hide (lives_any wr)
          go_wp2_with fail
          refine CLV.out.mono ?_
          rintro e w2 ⟨rfl, hb2⟩
          have HB := hide hb2
          clear hb2
          go_wp2_with fail
          go_ret
          exact ⟨rfl, LL.out.trans (HB.out.mono (by have := LL.out.size; have := HNw.out; omega))⟩
#print axioms bufferNone_any
end Go.Proofs.Ytfjlkncliljjnaa
