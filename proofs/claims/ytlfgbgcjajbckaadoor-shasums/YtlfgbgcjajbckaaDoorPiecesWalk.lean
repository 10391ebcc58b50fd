/-
  indenturelaw03.ShaPieces: the walk.
-/
import Derived.Test.YtlfgbgcjajbckaaDoorCutsWalk
import Derived.Test.YtlfgbgcjajbckaaDoorArgsL
import Derived.OwnWalk
import Derived.Deep.LoopGhost
namespace Go.Proofs.YtlfgbgcjajbckaaDoor
open Go.RowKit
theorem Tryd.info5 : (Tryd.prog.info? 5).map (fun i => (i.zero, i.size, i.bytes)) = some (some (.int .u8 0), 1, 1) := by kernel_rfl
/-- A new slice of no bytes is the call's own. -/
theorem own_none (w : World) (B : Nat) (hB : B ≤ w.heap.size) : Own (w.alloc (.cells #[] 5 (0, 0))) B (.slice (some ⟨w.heap.size, 0, none⟩) 0 0) [] :=
  ⟨rfl, .inr ⟨w.heap.size, 0, #[], rfl, hB, heap_alloc_new w _, Nat.le_refl _, by simp [maxLen], rfl, rfl⟩⟩
theorem own_nil (w : World) (B : Nat) : Own w B (.slice none 0 0) [] := ⟨rfl, .inl ⟨rfl, rfl⟩⟩
theorem Own.form {w : World} {B : Nat} {v : Value} {l : List UInt8} (h : Own w B v l) : ∃ a cap, v = .slice a l.length cap := by
  obtain ⟨a, cap, rfl, -⟩ := h.rd
  exact ⟨a, cap, rfl⟩
/-- What the call owns lies in another block than b. -/
theorem Own.but {w w' : World} {B b : Nat} {v : Value} {l : List UInt8} (h : Own w B v l) (hb : But b w w') (hlt : b < B ∨ w.heap.size ≤ b) : Own w' B v l := by
  obtain ⟨h1, h2⟩ := h
  refine ⟨h1, ?_⟩
  rcases h2 with h2 | ⟨g, cap, cur, hv, hg, hh, r⟩
  · exact Or.inl h2
  · have hlt' : g < w.heap.size := (Array.getElem?_eq_some_iff.1 hh).1
    exact Or.inr ⟨g, cap, cur, hv, hg, by rw [hb.block g hlt' (by omega)]; exact hh, r⟩
theorem Own.but' {w w' : World} {B b : Nat} {v : Value} {l : List UInt8} (h : Own w B v l) (hb : But b w w') (hlt : ∀ k, v.ownBlock = some k → k < b) : Own w' B v l := by
  obtain ⟨h1, h2⟩ := h
  refine ⟨h1, ?_⟩
  rcases h2 with h2 | ⟨g, cap, cur, hv, hg, hh, r⟩
  · exact Or.inl h2
  · have hlt' : g < w.heap.size := (Array.getElem?_eq_some_iff.1 hh).1
    have := hlt g (by rw [hv]; rfl)
    exact Or.inr ⟨g, cap, cur, hv, hg, by rw [hb.block g hlt' (by omega)]; exact hh, r⟩
theorem Stt.below {w w' : World} {b B : Nat} {m : List UInt8} (h : Stt w b m) (hb : Below B w w') (hB : b < B) : Stt w' b m := by
  obtain ⟨x, k, h1, h2⟩ := h
  exact ⟨x, k, (hb.block b hB).trans h1, h2⟩
theorem flat_take (L : List (List UInt8)) (i : Nat) (h : i < L.length) : (L.take (i + 1)).flatten = (L.take i).flatten ++ L[i] := by
  rw [List.take_add_one, List.getElem?_eq_getElem h, Option.toList_some, List.flatten_append]
  simp only [List.flatten_cons, List.flatten_nil, List.append_nil]
theorem wpList_append_bytes_w {P : Program} (w : World) {ops : Array Oper} {rest : List Oper} {o : Oper} {a : Act} {Q : Exit → Act → World → Prop} (hw : Region.wanted o (yielded ops a.tmps) = true) (s x : Operand) (t tx : TypeId)
    (ho : o.op = .call { callee := .builtin .append, args := #[s, x], argTypes := #[t, tx] })
    (base : Nat) (i : TypeInfo) (ht : P.underlying t = some (.slice 5)) (hi : P.info? 5 = some i) (hz : i.zero = some (.int .u8 0))
    (hsize : i.size = 1) (hby : i.bytes = 1)
    (v : Value) (l : List UInt8) (hv : a.eval s = v) (hown : Own w base v l)
    (xv : Value) (m : List UInt8) (hx : a.eval x = xv) (hs : Src P 1 tx xv m.length (By m) w)
    (hbytes : l.length + m.length ≤ 140737488355328) (hbase : base ≤ w.heap.size)
    (h : ∀ v' w', Own w' base v' (l ++ m) → Below base w w' → wpList P ops Q rest (a.put o.dst v') w') : wpList P ops Q (o :: rest) a w := by
  refine wpList_step fun K hK => ?_
  rw [if_pos hw]
  obtain ⟨v', w', hr, h2, h3⟩ := run_append_mine (P := P) w base t tx o.type 5 i (.int .u8 0) 1 1 ht hi hz hsize hby rfl v l.length (By l) hown xv m.length (By m) hs (by simp only [maxLen]; omega) (by omega) hbase
  unfold Oper.wp execOp
  simp only [ho, resolve, invoke, builtin, Sem.run_bind, Sem.run_pure, Result.andThen_ok, List.map_toArray, List.map_cons, List.map_nil, hv, hx, hr]
  refine hK _ _ (h v' w' ?_ (below_of_grown w hown h3 hbase))
  unfold Own
  rw [List.length_append, By_append]
  exact h2
set_option maxHeartbeats 2000000 in
set_option maxRecDepth 100000 in
theorem shaPieces_any (v u : Value) (L : List (List UInt8)) (l : List UInt8) (w : World) (hT : Tabs w) (hv : RdR w v L) (hu : Rd w u l) :
    Calls Tryd.prog 5 #[v, u] w fun e w' => e = .returned (.bool true) ∧ Below w.heap.size w w' := by
  have HT : Hid (Tabs w) := hT
  have HU : Hid (Rd w u l) := hu
  obtain ⟨a, cap, rfl, hrow⟩ := hv
  have HROW : Hid _ := hrow
  obtain ⟨a', cap', rfl, -, -⟩ := hu
  clear hT hrow
  obtain ⟨i0, hi0, hz0, hz1, hz2⟩ := info_parts Tryd.info5
  by_cases hbig : 40 < L.length
  · have q1 : (40 : Int) < (L.length : Int) := by omega
    go_enter Tryd.func5, Tryd.ntmps5
    go_wp2_with fail
    refine (lives_any w HT.out).mono ?_
    rintro e w1 ⟨rfl, hb1⟩
    go_wp2
    go_ret
    exact ⟨rfl, hb1⟩
  have q1 : ¬ (40 : Int) < (L.length : Int) := by omega
  by_cases hbig2 : 500 < l.length
  · have q2 : (500 : Int) < (l.length : Int) := by omega
    go_enter Tryd.func5, Tryd.ntmps5
    go_wp2_with fail
    refine (lives_any w HT.out).mono ?_
    rintro e w1 ⟨rfl, hb1⟩
    go_wp2
    go_ret
    exact ⟨rfl, hb1⟩
  have q2 : ¬ (500 : Int) < (l.length : Int) := by omega
  go_enter Tryd.func5, Tryd.ntmps5
  go_wp2_with fail
  refine (new_any w HT.out).mono ?_
  rintro e w1 ⟨bs, rfl, hbs, hst, hb1⟩
  have S1 : Hid (Stt w1 bs []) := hst
  have L1 : Hid (Below w.heap.size w w1) := hb1
  have HbS : Hid (w.heap.size ≤ bs) := hbs
  clear hst hb1 hbs
  have h2b : 2 ≤ bs := by have := HT.out.size; have := HbS.out; omega
  obtain ⟨B, HB⟩ : ∃ B, Hid (w1.heap.size = B) := ⟨_, rfl⟩
  have HbB : Hid (bs < B) := (show _ by rw [← HB.out]; exact S1.out.lt)
  go_wp2_with fail
  go_loopg [6, 22] (L.length + 1) (fun g y z wr => Hid (Below w.heap.size w wr) ∧ ∃ i : Nat, i ≤ L.length ∧ g + i = L.length + 1 ∧ z = .int .i64 i ∧ (L.take i).flatten.length ≤ 300 * i ∧ Hid (Own wr B y (L.take i).flatten) ∧ Hid (Stt wr bs (L.take i).flatten) ∧ Hid (B ≤ wr.heap.size))
  case atStart => exact ⟨L1, 0, by omega, by omega, rfl, by simp, own_nil _ _, S1, Nat.le_of_eq HB.out.symm⟩
  case round =>
    clear S1 L1 HB
    obtain ⟨L1, i, hi, hgk, rfl, hml, O1, S1, HBw⟩ := hrel
    by_cases hlt : i < L.length
    · have q3 : (i : Int) < (L.length : Int) := by omega
      obtain ⟨b, off, rfl, hbl, hc⟩ := HROW.out (by omega)
      obtain ⟨r, hr1, hr2⟩ := hc i hlt
      have hcell : wr.cell? ⟨b, off + i, none⟩ = some r := (L1.out.cell (p := ⟨b, off + i, none⟩) hbl).trans hr1
      have HFL : Hid _ := flat_take L i hlt
      generalize L[i] = x at *
      have HRx : Hid (Rd w r x) := hr2
      obtain ⟨ax, capx, rfl, -, -⟩ := hr2
      clear hc hr1
      by_cases hx : 300 < x.length
      · have q4 : (300 : Int) < (x.length : Int) := by omega
        go_wp2_with fail
        refine (lives_any wr (HT.out.gr L1.out)).mono ?_
        rintro e w2 ⟨rfl, hb2⟩
        go_wp2
        try rw [Exit.noGoto_ret]
        go_ret
        exact ⟨rfl, L1.out.trans (hb2.mono L1.out.size)⟩
      · have q4 : ¬ (300 : Int) < (x.length : Int) := by omega
        obtain ⟨m, HM⟩ : ∃ m, Hid ((L.take i).flatten = m) := ⟨_, rfl⟩
        rw [HM.out] at hml O1 S1 HFL
        have hmx : m.length ≤ 12000 := by omega
        go_wp2_with fail
        refine (write_any _ x m bs (by omega) h2b wr (HT.out.gr L1.out) S1.out (HRx.out.kept L1.out) (rd_off HRx.out HbS.out)).mono ?_
        rintro e w2 ⟨rfl, hu2, hst⟩
        have S2 : Hid (Stt w2 bs (m ++ x)) := hst
        have L2 : Hid (Below w.heap.size w w2) := L1.out.trans (hu2.below HbS.out L1.out.size)
        have O2 : Hid (Own w2 B u6 m) := O1.out.but hu2 (.inl HbB.out)
        have HBw2 : Hid (B ≤ w2.heap.size) := Nat.le_trans HBw.out hu2.size
        clear hst hu2 S1 L1 O1 HBw
        go_wp2_with (at_builtin; refine wpList_append_bytes _ rfl (.tmp 34) (.tmp 35) 22 22 rfl B i0 Tryd.underlying22 hi0 hz0 hz1 hz2 _ m rfl O2.out _ x rfl (by exact (HRx.out.kept L2.out).src 22 Tryd.underlying22) (by omega) HBw2.out ?_; intro v3 w3 ho3 hb3)
        have O3 : Hid (Own w3 B v3 (m ++ x)) := ho3
        obtain ⟨a3, cap3, rfl⟩ := ho3.form
        have S3 : Hid (Stt w3 bs (m ++ x)) := S2.out.below hb3 HbB.out
        have L3 : Hid (Below w.heap.size w w3) := L2.out.trans (hb3.mono (Nat.le_trans HbS.out (Nat.le_of_lt HbB.out)))
        have HBw3 : Hid (B ≤ w3.heap.size) := Nat.le_trans HBw2.out hb3.size
        clear ho3 hb3 O2 S2 L2 HBw2
        have hxl : (m ++ x).length ≤ 12300 := by rw [List.length_append]; omega
        have hxl2 : (m ++ x).length ≤ 300 * (i + 1) := by rw [List.length_append]; omega
        obtain ⟨mx, HMX⟩ : ∃ q, Hid (m ++ x = q) := ⟨_, rfl⟩
        rw [HMX.out] at O3 S3 hxl hxl2 HFL ⊢
        obtain ⟨X, HX⟩ : ∃ X, Hid (sha mx = X) := ⟨_, rfl⟩
        have hX32 : X.length = 32 := by rw [← HX.out]; exact sha_length _
        have e2 := eq25 X X hX32 hX32
        simp only [beq_self_eq_true] at e2
        go_wp2_with fail
        refine (stSum_any mx bs (by omega) w3 (HT.out.gr L3.out) S3.out).mono ?_
        rintro e w4 ⟨rfl, hb4⟩
        have O4 : Hid (Own w4 B (.slice a3 mx.length cap3) mx) := O3.out.kept hb4
        have S4 : Hid (Stt w4 bs mx) := S3.out.kept hb4
        have L4 : Hid (Below w.heap.size w w4) := L3.out.trans (hb4.mono L3.out.size)
        have HBw4 : Hid (B ≤ w4.heap.size) := Nat.le_trans HBw3.out hb4.size
        clear hb4 O3 S3 L3 HBw3
        rw [HX.out]
        go_wp2_with fail
        refine (sum_any _ mx (by omega) w4 (HT.out.gr L4.out) O4.out.rd).mono ?_
        rintro e w5 ⟨rfl, hb5⟩
        have O5 : Hid (Own w5 B (.slice a3 mx.length cap3) mx) := O4.out.kept hb5
        have S5 : Hid (Stt w5 bs mx) := S4.out.kept hb5
        have L5 : Hid (Below w.heap.size w w5) := L4.out.trans (hb5.mono L4.out.size)
        have HBw5 : Hid (B ≤ w5.heap.size) := Nat.le_trans HBw4.out hb5.size
        clear hb5 O4 S4 L4 HBw4
        rw [HX.out]
        go_wp2_with fail
        refine (len_any mx bs (by omega) w5 S5.out).mono ?_
        rintro e w6 ⟨rfl, hw⟩; subst hw
        go_wp2
        go_roundg (gk - 1)
        case measure => omega
        case rel => exact ⟨L5, i + 1, by omega, by omega, by go_num, by rw [HFL.out]; exact hxl2, by rw [HFL.out]; exact O5, by rw [HFL.out]; exact S5, HBw5⟩
    · obtain rfl : i = L.length := by omega
      obtain ⟨m, HM⟩ : ∃ m, Hid ((L.take L.length).flatten = m) := ⟨_, rfl⟩
      rw [HM.out] at hml O1 S1
      have hmx : m.length ≤ 12000 := by omega
      go_wp2_with fail
      refine (copy_any m bs wr S1.out).mono ?_
      rintro e w2 ⟨c, rfl, hc, hst, hb2⟩
      have hcb : bs < c := Nat.lt_of_lt_of_le S1.out.lt hc
      have S2 : Hid (Stt w2 bs m) := S1.out.kept hb2
      have C2 : Hid (Stt w2 c m) := hst
      have O2 : Hid (Own w2 B u6 m) := O1.out.kept hb2
      have L2 : Hid (Below w.heap.size w w2) := L1.out.trans (hb2.mono L1.out.size)
      have HBw2 : Hid (B ≤ w2.heap.size) := Nat.le_trans HBw.out hb2.size
      have Hcw : Hid (w.heap.size ≤ c) := Nat.le_trans L1.out.size hc
      have HOc : Hid (∀ k, u6.ownBlock = some k → k < c) := (show ∀ k, _ → _ from fun k hk => Nat.lt_of_lt_of_le (World.ownsRow.lt O1.out k hk).2 hc)
      clear hc hst hb2 O1 S1 L1 HBw
      go_wp2_with fail
      refine (write_any _ l m c (by omega) (by omega) w2 (HT.out.gr L2.out) C2.out (HU.out.kept L2.out) (rd_off HU.out Hcw.out)).mono ?_
      rintro e w3 ⟨rfl, hu3, hst⟩
      have C3 : Hid (Stt w3 c (m ++ l)) := hst
      have S3 : Hid (Stt w3 bs m) := S2.out.but hu3 (by omega)
      have L3 : Hid (Below w.heap.size w w3) := L2.out.trans (hu3.below Hcw.out L2.out.size)
      have O3 : Hid (Own w3 B u6 m) := O2.out.but' hu3 HOc.out
      have HBw3 : Hid (B ≤ w3.heap.size) := Nat.le_trans HBw2.out hu3.size
      clear hst hu3 C2 S2 L2 O2 HBw2
      obtain ⟨X, HX⟩ : ∃ X, Hid (sha m = X) := ⟨_, rfl⟩
      have hX32 : X.length = 32 := by rw [← HX.out]; exact sha_length _
      have e2 := eq25 X X hX32 hX32
      obtain ⟨Y, HY⟩ : ∃ Y, Hid (sha (m ++ l) = Y) := ⟨_, rfl⟩
      have hY32 : Y.length = 32 := by rw [← HY.out]; exact sha_length _
      have e3 := eq25 Y Y hY32 hY32
      simp only [beq_self_eq_true] at e2 e3
      have hmll : (m ++ l).length ≤ 12500 := by rw [List.length_append]; omega
      go_wp2_with fail
      refine (stSum_any m bs (by omega) w3 (HT.out.gr L3.out) S3.out).mono ?_
      rintro e w4 ⟨rfl, hb4⟩
      have O4 : Hid (Own w4 B u6 m) := O3.out.kept hb4
      have C4 : Hid (Stt w4 c (m ++ l)) := C3.out.kept hb4
      have L4 : Hid (Below w.heap.size w w4) := L3.out.trans (hb4.mono L3.out.size)
      have HBw4 : Hid (B ≤ w4.heap.size) := Nat.le_trans HBw3.out hb4.size
      clear hb4 O3 S3 C3 L3 HBw3
      rw [HX.out]
      go_wp2_with fail
      refine (sum_any _ m (by omega) w4 (HT.out.gr L4.out) O4.out.rd).mono ?_
      rintro e w5 ⟨rfl, hb5⟩
      have O5 : Hid (Own w5 B u6 m) := O4.out.kept hb5
      have C5 : Hid (Stt w5 c (m ++ l)) := C4.out.kept hb5
      have L5 : Hid (Below w.heap.size w w5) := L4.out.trans (hb5.mono L4.out.size)
      have HBw5 : Hid (B ≤ w5.heap.size) := Nat.le_trans HBw4.out hb5.size
      clear hb5 O4 C4 L4 HBw4
      rw [HX.out]
      go_wp2_with fail
      refine (stSum_any (m ++ l) c (by omega) w5 (HT.out.gr L5.out) C5.out).mono ?_
      rintro e w6 ⟨rfl, hb6⟩
      have O6 : Hid (Own w6 B u6 m) := O5.out.kept hb6
      have L6 : Hid (Below w.heap.size w w6) := L5.out.trans (hb6.mono L5.out.size)
      clear hb6 O5 C5 L5 HBw5
      rw [HY.out]
      have L7 : Hid (Below w6.heap.size w6 (w6.alloc (.cells #[] 5 (0, 0)))) := (Below.refl _ _).alloc (Nat.le_refl _) _
      have R7 : Hid (Rd (w6.alloc (.cells #[] 5 (0, 0))) u6 m) := O6.out.rd.kept L7.out
      have U7 : Hid (Rd (w6.alloc (.cells #[] 5 (0, 0))) (.slice a' l.length cap') l) := (HU.out.kept L6.out).kept L7.out
      go_wp2_with (first
        | (at_builtin; refine wpList_append_bytes_w _ rfl (.tmp 64) (.tmp 65) 22 22 rfl w6.heap.size i0 Tryd.underlying22 hi0 hz0 hz1 hz2 _ [] rfl (own_none w6 _ (Nat.le_refl _)) _ m rfl (by exact R7.out.src 22 Tryd.underlying22) (by simp; omega) (by simp) ?_; intro v8 w8 ho8 hb8; simp only [List.nil_append] at ho8)
        | (at_builtin; refine wpList_append_bytes_w _ rfl (.tmp 66) (.tmp 67) 22 22 rfl w6.heap.size i0 Tryd.underlying22 hi0 hz0 hz1 hz2 _ m rfl ho8 _ l rfl (by exact (((HU.out.kept L6.out).kept (L7.out.trans hb8))).src 22 Tryd.underlying22) (by omega) (by have := hb8.size; simp at this; omega) ?_; intro v9 w9 ho9 hb9))
      have L9 : Hid (Below w6.heap.size w6 w9) := (L7.out.trans hb8).trans hb9
      have L10 : Hid (Below w.heap.size w w9) := L6.out.trans (L9.out.mono L6.out.size)
      refine (sum_any _ (m ++ l) (by omega) w9 (HT.out.gr L10.out) ho9.rd).mono ?_
      rintro e w10 ⟨rfl, hb10⟩
      have L11 : Hid (Below w.heap.size w w10) := L10.out.trans (hb10.mono L10.out.size)
      clear hb10 ho9 hb9 ho8 hb8 L9 L10 L7 R7 U7
      rw [HY.out]
      go_wp2_with fail
      refine (lives_any w10 (HT.out.gr L11.out)).mono ?_
      rintro e w11 ⟨rfl, hb11⟩
      go_wp2
      go_ret
      exact ⟨rfl, L11.out.trans (hb11.mono L11.out.size)⟩
end Go.Proofs.YtlfgbgcjajbckaaDoor
