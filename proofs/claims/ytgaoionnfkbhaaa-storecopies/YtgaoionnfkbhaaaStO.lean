/-
  Scan: what the call does.
-/
import Derived.Test.YtgaoionnfkbhaaaStN
namespace Go.Proofs.Ytgaoionnfkbhaaa
open Go.RowKit Go.Shelf
attribute [local go_sem] Oper.semAt_some
theorem wpListIn_append_G {α : Type} {E : Enc α} {F : Fence} {nF : Nat} {P : Program} (w : World) {ops : Array Oper} {rest : List Oper} {o : Oper} {a : Act} {Q : Exit → Act → World → Prop} (hgd : o.guard = none) (s x : Operand) (t tx : TypeId)
    (ho : o.op = .call { callee := .builtin .append, args := #[s, x], argTypes := #[t, tx] })
    (base : Nat) (e : TypeId) (z : Value) (bytes : Nat) (ht : P.underlying t = some (.slice e)) (hi : (P.info? e).map (fun i => (i.zero, i.size, i.bytes)) = some (some z, E.n, bytes)) (hzs : z.cells.size = E.n)
    (v : Value) (L : List α) (hv : a.eval s = v) (hown : OwnG E w base e v L)
    (xv : Value) (M : List α) (hx : a.eval x = xv) (hr : RdG E w xv M) (e' : TypeId) (htx : P.underlying tx = some (.slice e'))
    (hlen : (L.length + M.length) * bytes ≤ 140737488355328) (hm : L.length + M.length ≤ maxLen) (hbase : base ≤ w.heap.size)
    (h : ∀ v' w', OwnG E w' base e v' (L ++ M) → w.grownBy w' v.ownBlock → wpListIn F nF P ops Q rest (a.put o.dst v') w') : wpListIn F nF P ops Q (o :: rest) a w := by
  obtain ⟨i, hi0, hz0, hz1, hz2⟩ := info_parts hi
  refine wpListIn_plain hgd fun K hK => ?_
  obtain ⟨v', w', hr, h2, h3, -⟩ := run_append_at (P := P) w base t tx o.type e i z E.n bytes ht hi0 hz0 hz1 hz2 hzs v L.length (E.cs L) hown xv M.length (E.cs M) (hr.src tx e' htx) hm hlen hbase
  unfold Oper.wpIn
  refine ⟨by simp [Oper.about, ho, resolve, Target.leads, Sem.run_pure], ?_⟩
  rw [Oper.semAt_plain F _ _ (by rw [ho]; intro c hc'; cases hc')]
  simp [execOp, ho, resolve, invoke, builtin, hv, hx, hr, Result.andThen]
  refine hK _ _ (h v' w' ?_ h3)
  unfold OwnG
  rw [List.length_append, Enc.cs_append]
  exact h2
theorem filter_prefix {ks : List ByteArray} (hs : Srt ks) (a b : ByteArray) {j : Nat} {k : ByteArray} (hk : (ks.drop (lb ks a))[j]? = some k) (hb : lt k b = true) : ∃ rest, ks.filter (inr a b) = (ks.drop (lb ks a)).take j ++ rest := by
  have hd := srt_drop hs (lb ks a)
  have hj : j < (ks.drop (lb ks a)).length := (List.getElem?_eq_some_iff.1 hk).1
  have hjk : (ks.drop (lb ks a))[j] = k := (List.getElem?_eq_some_iff.1 hk).2
  have h1 : ks = ks.take (lb ks a) ++ ((ks.drop (lb ks a)).take j ++ (ks.drop (lb ks a)).drop j) := by rw [List.take_append_drop, List.take_append_drop]
  refine ⟨((ks.drop (lb ks a)).drop j).filter (inr a b), ?_⟩
  conv => lhs; rw [h1]
  rw [List.filter_append, List.filter_append]
  have e1 : (ks.take (lb ks a)).filter (inr a b) = [] := by
    rw [List.filter_eq_nil_iff]
    intro k hk
    unfold inr
    rw [lb_take hs k hk]
    simp
  have e2 : ((ks.drop (lb ks a)).take j).filter (inr a b) = (ks.drop (lb ks a)).take j := by
    rw [List.filter_eq_self]
    intro k' hk'
    obtain ⟨i, hi, rfl⟩ := List.getElem_of_mem hk'
    rw [List.length_take] at hi
    rw [List.getElem_take]
    have hlt := (List.pairwise_iff_getElem.1 hd) i j (by omega) hj (by omega)
    rw [hjk] at hlt
    unfold inr
    rw [lb_drop hs _ (List.getElem_mem _), lt_trans hlt hb]
    rfl
  rw [e1, e2, List.nil_append]
def outL (s : SP) (n : Int) (pre : List Rng) : List Pr := (pre.map (·.1)).filterMap (scan1 s n)
theorem outL_snoc (s : SP) (n : Int) (pre : List Rng) (x : Rng) : outL s n (pre ++ [x]) = outL s n pre ++ (scan1 s n x.1).toList := by
  unfold outL
  rw [List.map_append, List.filterMap_append]
  cases h : scan1 s n x.1 <;> simp [h]
/-- What Scan's variables hold. -/
structure ScI (w4 : World) (S0 : Nat) (s : SP) (n mo : Int) (pre : List Rng) (W : World) : Prop where
  b0 : Blk W S0 3 [.int .i64 n]
  b1 : Blk W (S0 + 1) 3 [.int .i64 mo]
  b2 : ∃ vo, Blk W (S0 + 2) 31 [vo] ∧ OwnG PE W w4.heap.size 49 vo (outL s n pre)
  le : (outL s n pre).length ≤ mo.toNat
  c : Chg (fun k => k = S0 + 2 ∨ w4.heap.size ≤ k) w4 W
structure ScX (w4 : World) (S0 : Nat) (L : List Pr) (W : World) : Prop where
  b2 : ∃ vo, Blk W (S0 + 2) 31 [vo] ∧ OwnG PE W w4.heap.size 49 vo L
  c : Chg (fun k => k = S0 + 2 ∨ w4.heap.size ≤ k) w4 W
theorem ScI.kept {w4 : World} {S0 : Nat} {s : SP} {n mo : Int} {pre : List Rng} {W W' : World} (h : ScI w4 S0 s n mo pre W) (hb : Below W.heap.size W W') : ScI w4 S0 s n mo pre W' := by
  obtain ⟨vo, h1, h2⟩ := h.b2
  exact ⟨h.b0.kept hb, h.b1.kept hb, ⟨vo, h1.kept hb, h2.kept hb⟩, h.le, h.c.trans (Chg.of_below hb)⟩
theorem ScX.kept {w4 : World} {S0 : Nat} {L : List Pr} {W W' : World} (h : ScX w4 S0 L W) (hb : Below W.heap.size W W') : ScX w4 S0 L W' := by
  obtain ⟨vo, h1, h2⟩ := h.b2
  exact ⟨⟨vo, h1.kept hb, h2.kept hb⟩, h.c.trans (Chg.of_below hb)⟩
theorem OwnG.put {α : Type} {E : Enc α} {w : World} {B : Nat} {e : TypeId} {v : Value} {L : List α} (h : OwnG E w B e v L) {k : Nat} {o : Obj} (o' : Obj) (hk : w.heap[k]? = some o) (ho : o.isCells = false) : OwnG E (w.putObj k o') B e v L := ownsRow_putObj h o' hk ho
theorem ScI.put {w4 : World} {S0 : Nat} {s : SP} {n mo : Int} {pre : List Rng} {W : World} (h : ScI w4 S0 s n mo pre W) {l : Nat} {o : Obj} (o' : Obj) (hk : W.heap[l]? = some o) (ho : o.isCells = false) (hl : w4.heap.size ≤ l) (hS : S0 + 2 < w4.heap.size) : ScI w4 S0 s n mo pre (W.putObj l o') := by
  obtain ⟨vo, h1, h2⟩ := h.b2
  have hc := chg_put (G := fun k => k = l) (W := W) (l := l) rfl o'
  exact ⟨h.b0.chg hc (by omega), h.b1.chg hc (by omega), ⟨vo, h1.chg hc (by omega), h2.put o' hk ho⟩, h.le, h.c.then hc (fun i hi e => by omega)⟩
theorem ScX.put {w4 : World} {S0 : Nat} {L : List Pr} {W : World} (h : ScX w4 S0 L W) {l : Nat} {o : Obj} (o' : Obj) (hk : W.heap[l]? = some o) (ho : o.isCells = false) (hl : w4.heap.size ≤ l) (hS : S0 + 2 < w4.heap.size) : ScX w4 S0 L (W.putObj l o') := by
  obtain ⟨vo, h1, h2⟩ := h.b2
  have hc := chg_put (G := fun k => k = l) (W := W) (l := l) rfl o'
  exact ⟨⟨vo, h1.chg hc (by omega), h2.put o' hk ho⟩, h.c.then hc (fun i hi e => by omega)⟩
set_option maxRecDepth 100000 in
set_option maxHeartbeats 4000000 in
theorem scan_any {w : World} {D M : Nat} {vk : Value} {ks : List ByteArray} {s : SP} (h : StAt w D M vk ks s) (hN : ks.length ≤ 1000000) (hla : s.last ≤ 1000000) (fa tb : ByteArray) (n mo : Int) :
    Calls Try.prog 23 #[.pointer (some ⟨D, 0, none⟩), .string fa, .string tb, .int .i64 n, .int .i64 mo] w fun e w' => ∃ v', e = .returned (.tuple #[v', .int .i64 (scanS s ks fa tb n mo).2]) ∧ OwnG PE w' w.heap.size 49 v' (scanS s ks fa tb n mo).1 ∧ Below w.heap.size w w' := by
  obtain ⟨N0, -⟩ : ∃ n : Nat, True := ⟨9, trivial⟩
  have HS := hide h
  obtain ⟨rl, re, Hr⟩ : ∃ x y, Hid (scanS s ks fa tb n mo = (x, y)) := ⟨_, _, rfl⟩
  rw [Hr.out]
  simp only
  obtain ⟨mr, Hmr⟩ : ∃ r, Hid (mayP s n = r) := ⟨_, rfl⟩
  have HR2 : Hid ((rl, re) = if mr = 0 then ((scanL s ks fa tb n).take mo.toNat, 0) else ([], mr)) := (show _ = _ by rw [← Hr.out]; unfold scanS; rw [Hmr.out])
  clear h
  refine (callsIn_wide (n := N0)).1 ?_
  refine callsIn_of_wp_marks Try.func23 rfl trivial ?_ rfl
  simp only [Try.ntmps23, List.size_toArray, List.length_cons, List.length_nil, Nat.reduceAdd, Nat.reduceSub, Array.replicate_succ, Array.replicate_zero, List.push_toArray, List.append_toArray, List.nil_append, List.cons_append]
  have A2 : Hid (Below w.heap.size w ((w.alloc (.cells #[.int .i64 n] 3)).alloc (.cells #[.int .i64 mo] 3))) := ((Below.refl _ _).alloc (Nat.le_refl _) _).alloc (by simp) _
  have b0 : Hid (Blk ((w.alloc (.cells #[.int .i64 n] 3)).alloc (.cells #[.int .i64 mo] 3)) w.heap.size 3 [.int .i64 n]) := (Blk.new w 3 [.int .i64 n]).alloc _
  have b1 : Hid (Blk ((w.alloc (.cells #[.int .i64 n] 3)).alloc (.cells #[.int .i64 mo] 3)) (w.heap.size + 1) 3 [.int .i64 mo]) := (show Blk _ _ _ _ by
    have := Blk.new (w.alloc (.cells #[.int .i64 n] 3)) 3 [.int .i64 mo]
    rw [World.size_alloc] at this
    exact this)
  have sz : Hid (((w.alloc (.cells #[.int .i64 n] 3)).alloc (.cells #[.int .i64 mo] 3)).heap.size = w.heap.size + 2) := (show _ = _ by simp)
  have HST := hide (HS.out.kept A2.out)
  have HAK := hide (sAsked_any s.ch HST.out.d n)
  have em : (⟨s.ch, s.last, s.floor⟩ : SP) = s := rfl
  rw [em, Hmr.out] at HAK
  clear em
  gi_wp2_with fail
  refine wide_call HAK.out ?_
  rintro e w1 ⟨rfl, hw⟩
  rw [← hw] at A2 b0 b1 sz HST
  clear hw HAK
  obtain ⟨S0, HS0⟩ : ∃ s, Hid (w.heap.size = s) := ⟨_, rfl⟩
  rw [HS0.out] at b0 b1 sz ⊢
  by_cases hmr : mr = 0
  · subst hmr
    have hrl : rl = (scanL s ks fa tb n).take mo.toNat := by have := HR2.out; simp at this; exact this.1
    have hre : re = 0 := by have := HR2.out; simp at this; exact this.2
    subst hre
    have HRL := hide hrl
    clear hrl HR2
    have A3 : Hid (Below w1.heap.size w1 (w1.alloc (.cells #[.slice none 0 0] 31))) := (Below.refl _ _).alloc (Nat.le_refl _) _
    have b2 := hide (Blk.new w1 31 [.slice none 0 0])
    have s3 : Hid ((w1.alloc (.cells #[.slice none 0 0] 31)).heap.size = S0 + 3) := (show _ = _ by simp [sz.out])
    rw [sz.out] at b2
    gi_wp2_with fail
    refine wide_call (between_any D fa tb _) ?_
    rintro e w4 ⟨rfl, hw4⟩
    simp only [World.size_alloc, sz.out]
    have c0 : Hid (Blk w4 (S0 + 3) 25 [.pointer (some ⟨D, 0, none⟩)]) := (show Blk _ _ _ _ by
      have := ((Blk.new (w1.alloc (.cells #[.slice none 0 0] 31)) 25 [.pointer (some ⟨D, 0, none⟩)]).alloc (.cells #[.string fa] 9)).alloc (.cells #[.string tb] 9)
      rw [World.size_alloc, sz.out] at this
      rw [hw4]
      exact this)
    have c1 : Hid (Blk w4 (S0 + 4) 9 [.string fa]) := (show Blk _ _ _ _ by
      have := (Blk.new ((w1.alloc (.cells #[.slice none 0 0] 31)).alloc (.cells #[.pointer (some ⟨D, 0, none⟩)] 25)) 9 [.string fa]).alloc (.cells #[.string tb] 9)
      rw [World.size_alloc, World.size_alloc, sz.out] at this
      rw [hw4]
      exact this)
    have c2 : Hid (Blk w4 (S0 + 5) 9 [.string tb]) := (show Blk _ _ _ _ by
      have := Blk.new (((w1.alloc (.cells #[.slice none 0 0] 31)).alloc (.cells #[.pointer (some ⟨D, 0, none⟩)] 25)).alloc (.cells #[.string fa] 9)) 9 [.string tb]
      rw [World.size_alloc, World.size_alloc, World.size_alloc, sz.out] at this
      rw [hw4]
      exact this)
    have G4 : Hid (Below (w1.alloc (.cells #[.slice none 0 0] 31)).heap.size (w1.alloc (.cells #[.slice none 0 0] 31)) w4) := (show Below _ _ _ by rw [hw4]; exact (((Below.refl _ _).alloc (Nat.le_refl _) _).alloc (by simp) _).alloc (by simp) _)
    have s4 : Hid (w4.heap.size = S0 + 6) := (show _ = _ by rw [hw4]; simp [sz.out])
    clear hw4
    have G14 : Hid (Below w1.heap.size w1 w4) := A3.out.trans (G4.out.mono A3.out.size)
    have d0 := hide (b0.out.kept G14.out)
    have d1 := hide (b1.out.kept G14.out)
    have d2 := hide (b2.out.kept G4.out)
    have HS4 := hide (HST.out.kept G14.out)
    have hlow : Hid (∀ b, Mine D M vk b → b < S0) := (show ∀ b, _ from fun b hb => by have := HS.out.lt hb; rw [HS0.out] at this; exact this)
    have L4 : Hid (Below w.heap.size w w4) := A2.out.trans (G14.out.mono A2.out.size)
    gi_wp2_with fail
    refine wp_ranged2 (n := N0) (gf := 51) (lb := #[.pointer (some ⟨S0 + 3, 0, none⟩), .pointer (some ⟨S0 + 4, 0, none⟩), .pointer (some ⟨S0 + 5, 0, none⟩)]) rfl (enters_of Try.func51 (by kernel_rfl) rfl) (encs := rgV) (fun _ => rfl) (R := rgR ks s.ch fa tb) (S := fun xs => xs.map (·.1) = ks.filter (inr fa tb)) (ScI w4 S0 s n mo) (fun c _ W => c = .exit 0 ∧ ScX w4 S0 rl W) ?ip ?xp ?ib ?xb ?rp ?h0 (G := fun k => k = S0 + 2 ∨ w4.heap.size ≤ k) (fun k hk => .inr hk)
      (between1_hands (N0 - 1) (S0 + 3) (S0 + 4) (S0 + 5) D M vk ks s fa tb w4 HS4.out hN c0.out c1.out c2.out ?g0 ?g1 ?g2 ?g3 ?g4)
      (fun y => { tmps := #[.pointer (some ⟨D, 0, none⟩), .string fa, .string tb, .int .i64 n, .int .i64 mo, undef, undef, undef, .pointer (some ⟨S0, 0, none⟩), .pointer (some ⟨S0 + 1, 0, none⟩), .slice none 0 0, .int .i64 0, .int .i64 0, .pointer (some ⟨S0 + 2, 0, none⟩), .string y.1, y.2, undef, undef, .pointer (some ⟨D, 0, none⟩), .int .i64 n, .int .i64 0, .int .i64 0, .bool false, undef, .pointer (some ⟨D, 0, none⟩), .string fa, .string tb, .func (.func 51) #[] #[.pointer (some ⟨S0 + 3, 0, none⟩), .pointer (some ⟨S0 + 4, 0, none⟩), .pointer (some ⟨S0 + 5, 0, none⟩)], .string y.1, y.2, undef, undef, undef, undef, undef, undef, undef, undef, undef, undef, undef, undef, undef, undef, undef, undef, undef, undef, undef], defers := [] }) ?assign ?body ?done ?left
    case g0 => have := s4.out; omega
    case g1 => have := s4.out; omega
    case g2 => have := s4.out; omega
    case g3 =>
      intro b hb h
      have := hlow.out b hb
      have := s4.out
      omega
    case g4 =>
      intro b cur hb h
      have hlt : b < w4.heap.size := (Array.getElem?_eq_some_iff.1 hb).1
      rcases h with rfl | h
      · have := d2.out
        unfold Blk at this
        rw [hb] at this
        cases this
      · omega
    case ip => exact fun pre W l r o hl hW hI => hI.put o hW rfl hl (by have := s4.out; omega)
    case xp => exact fun c pre W l r o hl hW ⟨hc, hI⟩ => ⟨hc, hI.put o hW rfl hl (by have := s4.out; omega)⟩
    case ib => exact fun pre X Y hI hb => hI.kept hb
    case xb => exact fun c pre X Y ⟨hc, hI⟩ hb => ⟨hc, hI.kept hb⟩
    case rp =>
      rintro pre x W l r o hl hW ⟨h1, h2, h3, h4, h5⟩
      exact ⟨h1, h2, h3, h4.put o hW, h5⟩
    case h0 => exact ⟨d0.out, d1.out, ⟨_, d2.out, ownG_nil _ _ _⟩, by simp [outL], Chg.refl _ _⟩
    case assign =>
      intro l y W K' hK
      simp only [rgV]
      gi_wp2
      exact hK
    case body =>
      rintro l pre ⟨ky, vc⟩ W hle hI ⟨hR1, hR2, hR3, hR4, -⟩
      obtain ⟨vo, ho1, ho2⟩ := hI.b2
      obtain ⟨oa, oc, rfl⟩ := ho2.rd.slice
      obtain ⟨ol, HOL⟩ : ∃ x, Hid ((outL s n pre).length = x) := ⟨_, rfl⟩
      rw [HOL.out] at ho1 ho2
      have e0 := hI.b0.cell (j := 0) rfl
      have e1 := hI.b1.cell (j := 0) rfl
      have e2 := ho1.cell (j := 0) rfl
      have HI := hide hI
      have HO1 := hide ho1
      have HO2 := hide ho2
      have HR := hide hR4
      have HRR := hide (And.intro hR1 (And.intro hR2 hR3))
      have hole := hI.le
      rw [HOL.out] at hole
      have holm : ol ≤ 9223372036854775807 := Nat.le_trans ho2.rd.cap ho2.rd.max
      have hlen : Hid ((s.ch ky).length ≤ 4398046511104) := (show (s.ch ky).length ≤ 4398046511104 by have h2 : ((s.ch ky).length : Int) ≤ s.last := HS.out.inv.len ky; omega)
      have hpl : Hid (ol ≤ 1000000) := (show ol ≤ 1000000 by
        have h1 : (outL s n pre).length ≤ pre.length := by unfold outL; exact Nat.le_trans (List.length_filterMap_le _ _) (by simp)
        have h2 : pre.length ≤ ks.length := by
          have := congrArg List.length hR1
          rw [List.length_map, List.length_take, List.length_drop] at this
          omega
        have := HOL.out
        omega)
      clear hI ho1 ho2 hR1 hR2 hR3 hR4
      by_cases hbr : mo ≤ (ol : Int)
      · have q1 : decide (mo ≤ (ol : Int)) = true := by simp [hbr]
        have HX : Hid (ScX w4 S0 rl W) := (show ScX _ _ _ _ by
          refine ⟨⟨_, HO1.out, ?_⟩, HI.out.c⟩
          have : rl = outL s n pre := by
            rw [HRL.out]
            obtain ⟨rest, hrest⟩ := filter_prefix HS.out.inv.srt fa tb HRR.out.2.1 (by have := HRR.out.2.2; unfold inr at this; simp at this; exact this.2)
            unfold scanL
            rw [hrest, List.filterMap_append, ← HRR.out.1]
            show (outL s n pre ++ _).take mo.toNat = _
            have : mo.toNat = (outL s n pre).length := by rw [HOL.out]; omega
            rw [this, List.take_left']
            rfl
          rw [this]
          have h := HO2.out
          exact h)
        gi_wp2_with fail
        exact ⟨KeepsFrom.refl _ _, Chg.refl _ _, rfl, HX.out⟩
      · have q1 : decide (mo ≤ (ol : Int)) = false := by simp; omega
        obtain ⟨gv, gb, Hg⟩ : ∃ x y, Hid (getP (s.ch ky) n = (x, y)) := ⟨_, _, rfl⟩
        have HC := hide (get_any HR.out hlen.out n)
        rw [Hg.out] at HC
        have hz := Zver
        obtain ⟨gp, gs, gd'⟩ := gv
        have HS1 : Hid (scan1 s n ky = if gb = true then some (ky, gs, false) else none) := (show _ = _ by unfold scan1; rw [Hg.out])
        simp only [VC] at HC
        gi_wp2_with fail
        refine wide_call HC.out ?_
        rintro e w5 ⟨rfl, hb5⟩
        have G5 := hide hb5
        clear hb5
        have A6 : Hid (Below w5.heap.size w5 (w5.alloc (.cells #[.int .i64 gp, .string gs, .bool gd'] 76))) := (Below.refl _ _).alloc (Nat.le_refl _) _
        have G6 : Hid (Below W.heap.size W (w5.alloc (.cells #[.int .i64 gp, .string gs, .bool gd'] 76))) := G5.out.trans (A6.out.mono G5.out.size)
        have B6 : Hid (Blk (w5.alloc (.cells #[.int .i64 gp, .string gs, .bool gd'] 76)) w5.heap.size 76 [.int .i64 gp, .string gs, .bool gd']) := Blk.new w5 76 [.int .i64 gp, .string gs, .bool gd']
        have I6 := hide (HI.out.kept G6.out)
        cases gb with
        | false =>
          gi_wp2_with fail
          obtain ⟨vo, h1, h2⟩ := I6.out.b2
          refine ⟨keeps_chg (F := fun _ => False) (Chg.of_below G6.out) (fun _ _ h => h.elim), Chg.of_below G6.out, I6.out.b0, I6.out.b1, ⟨vo, h1, ?_⟩, ?_, I6.out.c⟩
          · rw [outL_snoc, HS1.out]
            simpa using h2
          · rw [outL_snoc, HS1.out]
            simpa using I6.out.le
        | true =>
          have HO6 := hide (HO2.out.kept G6.out)
          have D6 := hide (HO1.out.kept G6.out)
          have f6 := D6.out.cell (j := 0) rfl
          have g6 := B6.out.cell (j := 1) rfl
          obtain ⟨w6, hw6⟩ : ∃ x, x = w5.alloc (.cells #[.int .i64 gp, .string gs, .bool gd'] 76) := ⟨_, rfl⟩
          have A7 : Hid (Below w6.heap.size w6 (w6.alloc (.cells #[.string ky, .string gs, .bool false] 49))) := (Below.refl _ _).alloc (Nat.le_refl _) _
          have O7 : Hid (OwnG PE (w6.alloc (.cells #[.string ky, .string gs, .bool false] 49)) w4.heap.size 49 (.slice oa ol oc) (outL s n pre)) := (show OwnG _ _ _ _ _ _ by rw [← hw6] at HO6; exact HO6.out.kept A7.out)
          have R7 : Hid (RdG PE (w6.alloc (.cells #[.string ky, .string gs, .bool false] 49)) (.slice (some ⟨w6.heap.size, 0, none⟩) 1 1) [(ky, gs, false)]) := rdG_one (E := PE) w6 49 (ky, gs, false)
          have hb1 : Hid (((outL s n pre).length + [(ky, gs, false)].length) * 40 ≤ 140737488355328) := (show ((outL s n pre).length + 1) * 40 ≤ 140737488355328 by rw [HOL.out]; have := hpl.out; omega)
          have hb2 : Hid ((outL s n pre).length + [(ky, gs, false)].length ≤ maxLen) := (show (outL s n pre).length + 1 ≤ maxLen by rw [HOL.out]; have := hpl.out; simp only [maxLen]; omega)
          have hb3 : Hid (w4.heap.size ≤ (w6.alloc (.cells #[.string ky, .string gs, .bool false] 49)).heap.size) := (show w4.heap.size ≤ _ by
            have h1 := A7.out.size
            have h2 := G6.out.size
            rw [← hw6] at h2
            omega)
          rw [hw6] at A7 O7 R7 hb3
          rw [World.size_alloc] at R7
          gi_wp2_with (gi_at_builtin; refine wpListIn_append_G _ rfl _ _ 31 31 rfl w4.heap.size 49 (.agg #[.string ⟨#[]⟩, .string ⟨#[]⟩, .bool false]) 40 Try.underlying31 Try.info49 rfl _ _ rfl O7.out _ [(ky, gs, false)] rfl R7.out 49 Try.underlying31 hb1.out hb2.out hb3.out ?_; intro v8 w8 o8 g8; obtain ⟨ga, gn, gc, hv8⟩ : ∃ x y z, v8 = .slice x y z := (by obtain ⟨x, y, h⟩ := o8.rd.slice; exact ⟨_, _, _, h⟩); subst hv8; have O8 := hide o8; have hc8 : Chg (fun b => (Value.slice oa ol oc).ownBlock = some b) _ w8 := Chg.of_grown g8 (fun k e _ => e); have hnb : ∀ b, (Value.slice oa ol oc).ownBlock = some b → w4.heap.size ≤ b := (fun b hb => (HO2.out.block hb).1); have D8 := hide ((D6.out.kept ((Below.refl _ _).alloc (Nat.le_refl _) _)).chg hc8 (fun e => by have := hnb _ e; have := s4.out; omega)); have c8 := D8.out.cell (j := 0) rfl; have f8 := D8.out.frozen 0; have C8 := hide hc8; clear o8 g8 hc8)
          have hA : Below W.heap.size W ((w5.alloc (.cells #[.int .i64 gp, .string gs, .bool gd'] 76)).alloc (.cells #[.string ky, .string gs, .bool false] 49)) := G6.out.trans (A7.out.mono G6.out.size)
          have hcW : Chg (fun k => k = S0 + 2 ∨ (Value.slice oa ol oc).ownBlock = some k) W (w8.setCell ⟨S0 + 2, 0, none⟩ (.slice ga gn gc)) := ((Chg.of_below hA).trans (C8.out.mono (fun _ _ e => .inr e))).trans (Chg.setCell _ (.inl rfl) 0 _)
          have hF : ∀ k, (Value.slice oa ol oc).ownBlock = some k → w4.heap.size ≤ k := fun k hk => (HO2.out.block hk).1
          have hs4 := s4.out
          refine ⟨keeps_chg hcW (fun k ob hk hb => ?_), hcW.mono (fun k _ e => ?_), ?_, ?_, ⟨_, D8.out.set 0 _, ?_⟩, ?_, HI.out.c.then hcW (fun k hk e => ?_)⟩
          · rcases hk with rfl | hk
            · have := HO1.out
              unfold Blk at this
              rw [this] at hb
              cases hb
              rfl
            · obtain ⟨_, _, cu, hcu⟩ := HO2.out.block hk
              rw [hcu] at hb
              cases hb
              rfl
          · rcases e with e | e
            · exact .inl e
            · exact .inr (hF k e)
          · exact HI.out.b0.chg hcW (fun e => by rcases e with e | e; omega; have := hF _ e; omega)
          · exact HI.out.b1.chg hcW (fun e => by rcases e with e | e; omega; have := hF _ e; omega)
          · rw [outL_snoc, HS1.out]
            refine OwnG.chg (F := fun k => k = S0 + 2) O8.out (Chg.setCell (F := fun k => k = S0 + 2) _ (b := S0 + 2) rfl 0 _) (fun b hb e => ?_)
            have := (O8.out.block hb).1
            omega
          · rw [outL_snoc, HS1.out, List.length_append, HOL.out]
            show ol + 1 ≤ mo.toNat
            omega
          · rcases e with e | e
            · exact .inl e
            · exact .inr (hF k e)
    case done =>
      rintro E xs W hE hS hI hD
      obtain ⟨vo, ho1, ho2⟩ := hI.b2
      have hout : outL s n xs = rl := by
        rw [HRL.out]
        unfold scanL
        rw [← hS]
        show _ = (outL s n xs).take mo.toNat
        rw [List.take_of_length_le hI.le]
      rw [hout] at ho2
      obtain ⟨oa, oc, hvo⟩ := ho2.rd.slice
      subst hvo
      have e2 := ho1.cell (j := 0) rfl
      have HO2 := hide ho2
      have HC := hide hI.c
      clear hI ho1 ho2 hout hS
      gi_wp2_with fail
      refine ⟨by simp, .inl ⟨_, _, rfl, run_takeDeferred hD, ?_⟩⟩
      have hs4 := s4.out
      have hp := chg_put (G := fun k => k = E) (W := W) (l := E) rfl (.deferred none)
      refine ⟨_, results_tmp2 rfl _ _ _, _, rfl, ?_, ?_⟩
      · have h1 := HO2.out.put (.deferred none) hD rfl
        exact h1.mono (by have := HS0.out; omega)
      · have hch := HC.out.then hp (G := fun k => k = E) (F := fun k => k = S0 + 2 ∨ w4.heap.size ≤ k) (fun i hi e => by subst e; omega)
        exact L4.out.trans (hch.below L4.out.size (fun k hk h => by have := HS0.out; omega))
    case left =>
      rintro E c xs W hE ⟨rfl, hI⟩ hD
      obtain ⟨vo, ho1, ho2⟩ := hI.b2
      obtain ⟨oa, oc, hvo⟩ := ho2.rd.slice
      subst hvo
      have e2 := ho1.cell (j := 0) rfl
      have HO2 := hide ho2
      have HC := hide hI.c
      clear hI ho1 ho2
      gi_wp2_with fail
      refine ⟨by simp, .inl ⟨_, _, rfl, run_takeDeferred hD, ?_⟩⟩
      have hs4 := s4.out
      have hp := chg_put (G := fun k => k = E) (W := W) (l := E) rfl (.deferred none)
      refine ⟨_, results_tmp2 rfl _ _ _, _, rfl, ?_, ?_⟩
      · have h1 := HO2.out.put (.deferred none) hD rfl
        exact h1.mono (by have := HS0.out; omega)
      · have hch := HC.out.then hp (G := fun k => k = E) (F := fun k => k = S0 + 2 ∨ w4.heap.size ≤ k) (fun i hi e => by subst e; omega)
        exact L4.out.trans (hch.below L4.out.size (fun k hk h => by have := HS0.out; omega))
  · have hmr' : decide (mr = 0) = false := by simp [hmr]
    have hrl : rl = [] := by have := HR2.out; rw [if_neg hmr] at this; simp at this; exact this.1
    have hre : re = mr := by have := HR2.out; rw [if_neg hmr] at this; simp at this; exact this.2
    subst hre
    have HRL := hide hrl
    clear hrl HR2
    gi_wp2_with fail
    exact ⟨_, results_tmp2 rfl _ _ _, _, rfl, by rw [HRL.out]; exact ownG_nil _ _ _, A2.out⟩
#print axioms scan_any
end Go.Proofs.Ytgaoionnfkbhaaa
