/-
  Within: what the call does.
-/
import Derived.Test.YtgaoionnfkbhaaaStE
namespace Go.Proofs.Ytgaoionnfkbhaaa
open Go.RowKit Go.Shelf
attribute [local go_sem] Oper.semAt_some
/-- What Within's variables hold. -/
structure WiI (w4 : World) (S0 : Nat) (s : SP) (n : Int) (pre : List Rng) (W : World) : Prop where
  b0 : Blk W S0 3 [.int .i64 n]
  b1 : Blk W (S0 + 1) 4 [.bool false]
  no : ∀ x ∈ pre, wroteS s x.1 n = false
  c : Chg (fun k => k = S0 + 1 ∨ w4.heap.size ≤ k) w4 W
structure WiX (w4 : World) (S0 : Nat) (s : SP) (ks : List ByteArray) (fa tb : ByteArray) (n : Int) (W : World) : Prop where
  b1 : Blk W (S0 + 1) 4 [.bool true]
  yes : withinS s ks fa tb n = true
  c : Chg (fun k => k = S0 + 1 ∨ w4.heap.size ≤ k) w4 W
theorem WiI.chg {w4 : World} {S0 : Nat} {s : SP} {n : Int} {pre : List Rng} {W W' : World} (h : WiI w4 S0 s n pre W) {G : Nat → Prop} (hc : Chg G W W') (hG : ∀ k, k < w4.heap.size → ¬ G k) (hS : S0 + 1 < w4.heap.size) : WiI w4 S0 s n pre W' :=
  ⟨h.b0.chg hc (hG _ (by omega)), h.b1.chg hc (hG _ hS), h.no, h.c.then hc (fun i hi hg => absurd hg (hG i hi))⟩
theorem WiX.chg {w4 : World} {S0 : Nat} {s : SP} {ks : List ByteArray} {fa tb : ByteArray} {n : Int} {W W' : World} (h : WiX w4 S0 s ks fa tb n W) {G : Nat → Prop} (hc : Chg G W W') (hG : ∀ k, k < w4.heap.size → ¬ G k) (hS : S0 + 1 < w4.heap.size) : WiX w4 S0 s ks fa tb n W' :=
  ⟨h.b1.chg hc (hG _ hS), h.yes, h.c.then hc (fun i hi hg => absurd hg (hG i hi))⟩
theorem RdV.put {w : World} {v : Value} {L : List Ver} (h : RdV w v L) {k : Nat} {r : Loop} (o : Obj) (hk : w.heap[k]? = some (.loop r)) : RdV (w.putObj k o) v L := by
  obtain ⟨a, cap, rfl, h1, h2, h3, h4⟩ := h
  refine ⟨a, cap, rfl, h1, h2, h3, fun hl => ?_⟩
  obtain ⟨b, off, rfl, hlt, hc⟩ := h4 hl
  refine ⟨b, off, rfl, by simpa using hlt, fun j u hj => ?_⟩
  rw [← hc j u hj]
  by_cases hbk : b = k
  · subst hbk
    have h0 := hc 0
    have hp : 0 < (VCs L).length := by rw [VCs_length]; omega
    have := h0 _ (List.getElem?_eq_getElem hp)
    simp [World.cell?, hk] at this
  · simp only [World.cell?]
    rw [World.putObj_heap_other hbk]
set_option maxRecDepth 100000 in
set_option maxHeartbeats 4000000 in
theorem within_any {w : World} {D M : Nat} {vk : Value} {ks : List ByteArray} {s : SP} (h : StAt w D M vk ks s) (hN : ks.length ≤ 1000000) (hla : s.last ≤ 1000000) (fa tb : ByteArray) (n : Int) :
    Calls Try.prog 19 #[.pointer (some ⟨D, 0, none⟩), .string fa, .string tb, .int .i64 n] w fun e w' => e = .returned (.bool (withinS s ks fa tb n)) ∧ Below w.heap.size w w' := by
  obtain ⟨N0, -⟩ : ∃ n : Nat, True := ⟨9, trivial⟩
  have HS := hide h
  obtain ⟨r, Hr⟩ : ∃ r, Hid (withinS s ks fa tb n = r) := ⟨_, rfl⟩
  rw [Hr.out]
  clear h
  refine (callsIn_wide (n := N0)).1 ?_
  refine callsIn_of_wp_marks Try.func19 rfl trivial ?_ rfl
  simp only [Try.ntmps19, List.size_toArray, List.length_cons, List.length_nil, Nat.reduceAdd, Nat.reduceSub, Array.replicate_succ, Array.replicate_zero, List.push_toArray, List.append_toArray, List.nil_append, List.cons_append]
  have A2 : Hid (Below w.heap.size w ((w.alloc (.cells #[.int .i64 n] 3)).alloc (.cells #[.bool false] 4))) := ((Below.refl _ _).alloc (Nat.le_refl _) _).alloc (by simp) _
  gi_wp2_with fail
  refine wide_call (sMade_any (HS.out.kept A2.out).d) ?_
  rintro e w1 ⟨rfl, hw⟩
  have b0 : Hid (Blk ((w.alloc (.cells #[.int .i64 n] 3)).alloc (.cells #[.bool false] 4)) w.heap.size 3 [.int .i64 n]) := (Blk.new w 3 [.int .i64 n]).alloc _
  have b1 : Hid (Blk ((w.alloc (.cells #[.int .i64 n] 3)).alloc (.cells #[.bool false] 4)) (w.heap.size + 1) 4 [.bool false]) := (show Blk _ _ _ _ by
    have := Blk.new (w.alloc (.cells #[.int .i64 n] 3)) 4 [.bool false]
    rw [World.size_alloc] at this
    exact this)
  have sz : Hid (((w.alloc (.cells #[.int .i64 n] 3)).alloc (.cells #[.bool false] 4)).heap.size = w.heap.size + 2) := (show _ = _ by simp)
  rw [← hw] at A2 b0 b1 sz
  clear hw
  obtain ⟨S0, HS0⟩ : ∃ s, Hid (w.heap.size = s) := ⟨_, rfl⟩
  rw [HS0.out] at b0 b1 sz ⊢
  gi_wp2_with fail
  refine wide_call (between_any D fa tb w1) ?_
  rintro e w4 ⟨rfl, hw4⟩
  have c0 : Hid (Blk w4 (S0 + 2) 25 [.pointer (some ⟨D, 0, none⟩)]) := (show Blk _ _ _ _ by rw [hw4, ← sz.out]; exact ((Blk.new w1 25 [.pointer (some ⟨D, 0, none⟩)]).alloc _).alloc _)
  have c1 : Hid (Blk w4 (S0 + 3) 9 [.string fa]) := (show Blk _ _ _ _ by
    have := (Blk.new (w1.alloc (.cells #[.pointer (some ⟨D, 0, none⟩)] 25)) 9 [.string fa]).alloc (.cells #[.string tb] 9)
    rw [World.size_alloc, sz.out] at this
    rw [hw4]
    exact this)
  have c2 : Hid (Blk w4 (S0 + 4) 9 [.string tb]) := (show Blk _ _ _ _ by
    have := Blk.new ((w1.alloc (.cells #[.pointer (some ⟨D, 0, none⟩)] 25)).alloc (.cells #[.string fa] 9)) 9 [.string tb]
    rw [World.size_alloc, World.size_alloc, sz.out] at this
    rw [hw4]
    exact this)
  have G4 : Hid (Below w1.heap.size w1 w4) := (show Below _ _ _ by rw [hw4]; exact (((Below.refl _ _).alloc (Nat.le_refl _) _).alloc (by simp) _).alloc (by simp; omega) _)
  have s4 : Hid (w4.heap.size = S0 + 5) := (show _ = _ by rw [hw4]; simp [sz.out])
  clear hw4
  rw [sz.out]
  have d0 := hide (b0.out.kept G4.out)
  have d1 := hide (b1.out.kept G4.out)
  have HS4 := hide ((HS.out.kept A2.out).kept G4.out)
  have hlow : Hid (∀ b, Mine D M vk b → b < S0) := (show ∀ b, _ from fun b hb => by have := HS.out.lt hb; rw [HS0.out] at this; exact this)
  have L4 : Hid (Below w.heap.size w w4) := A2.out.trans (G4.out.mono A2.out.size)
  gi_wp2_with fail
  refine wp_ranged2 (n := N0) (gf := 51) (lb := #[.pointer (some ⟨S0 + 2, 0, none⟩), .pointer (some ⟨S0 + 3, 0, none⟩), .pointer (some ⟨S0 + 4, 0, none⟩)]) rfl (enters_of Try.func51 (by kernel_rfl) rfl) (encs := rgV) (fun _ => rfl) (R := rgR ks s.ch fa tb) (S := fun xs => xs.map (·.1) = ks.filter (inr fa tb)) (WiI w4 S0 s n) (fun c _ W => c = .ret ∧ WiX w4 S0 s ks fa tb n W) ?ip ?xp ?ib ?xb ?rp ?h0 (G := fun k => k = S0 + 1 ∨ w4.heap.size ≤ k) (fun k hk => .inr hk)
    (between1_hands (N0 - 1) (S0 + 2) (S0 + 3) (S0 + 4) D M vk ks s fa tb w4 HS4.out hN c0.out c1.out c2.out ?g0 ?g1 ?g2 ?g3 ?g4)
    (fun y => { tmps := #[.pointer (some ⟨D, 0, none⟩), .string fa, .string tb, .int .i64 n, undef, undef, undef, .pointer (some ⟨S0, 0, none⟩), .pointer (some ⟨S0 + 1, 0, none⟩), undef, y.2, .pointer (some ⟨D, 0, none⟩), .bool true, .bool false, .pointer (some ⟨D, 0, none⟩), .string fa, .string tb, .func (.func 51) #[] #[.pointer (some ⟨S0 + 2, 0, none⟩), .pointer (some ⟨S0 + 3, 0, none⟩), .pointer (some ⟨S0 + 4, 0, none⟩)], .string y.1, y.2, undef, undef, undef, undef], defers := [] }) ?assign ?body ?done ?left
  case g0 => have := s4.out; omega
  case g1 => have := s4.out; omega
  case g2 => have := s4.out; omega
  case g3 =>
    intro b hb h
    have := hlow.out b hb
    have := s4.out
    omega
  case g4 =>
    intro b cur hb h
    have hlt : b < w4.heap.size := (Array.getElem?_eq_some_iff.1 hb).1
    rcases h with rfl | h
    · have := d1.out
      unfold Blk at this
      rw [hb] at this
      cases this
    · omega
  case ip =>
    intro pre W l r o hl hW hI
    exact hI.chg (chg_put (G := fun k => k = l) rfl o) (fun k hk e => by subst e; omega) (by have := s4.out; omega)
  case xp =>
    rintro c pre W l r o hl hW ⟨hc, hI⟩
    exact ⟨hc, hI.chg (chg_put (G := fun k => k = l) rfl o) (fun k hk e => by subst e; omega) (by have := s4.out; omega)⟩
  case ib =>
    intro pre X Y hI hb
    exact hI.chg (G := fun _ => False) (Chg.of_below hb) (fun _ _ => id) (by have := s4.out; omega)
  case xb =>
    rintro c pre X Y ⟨hc, hI⟩ hb
    exact ⟨hc, hI.chg (G := fun _ => False) (Chg.of_below hb) (fun _ _ => id) (by have := s4.out; omega)⟩
  case rp =>
    rintro pre x W l r o hl hW ⟨h1, h2, h3, h4, h5⟩
    exact ⟨h1, h2, h3, h4.put o hW, h5⟩
  case h0 => exact ⟨d0.out, d1.out, by simp, Chg.refl _ _⟩
  case assign =>
    intro l y W K' hK
    simp only [rgV]
    gi_wp2
    exact hK
  case body =>
    rintro l pre ⟨ky, vc⟩ W hle hI ⟨hR1, hR2, hR3, hR4, -⟩
    have e0 := hI.b0.cell (j := 0) rfl
    have HI := hide hI
    have HR := hide hR4
    have hmem : ky ∈ ks := List.mem_of_mem_drop (List.mem_of_getElem? hR2)
    have HIN := hide (And.intro hmem hR3)
    have hlen : Hid ((s.ch ky).length ≤ 4398046511104) := (show (s.ch ky).length ≤ 4398046511104 by have h2 : ((s.ch ky).length : Int) ≤ s.last := HS.out.inv.len ky; omega)
    have HC := hide (since_any HR.out hlen.out n)
    obtain ⟨q, Hq⟩ : ∃ r, Hid (sinceP (s.ch ky) n = r) := ⟨_, rfl⟩
    rw [Hq.out] at HC
    have HW : Hid (wroteS s ky n = decide (0 < q)) := (show _ = _ by unfold wroteS; rw [Hq.out])
    clear hI hR1 hR2 hR3 hR4 hmem
    gi_wp2_with fail
    refine wide_call HC.out ?_
    rintro e w5 ⟨rfl, hb5⟩
    have I5 := hide (HI.out.chg (G := fun _ => False) (Chg.of_below hb5) (fun _ _ => id) (by have := s4.out; omega))
    have G5 := hide hb5
    clear hb5
    have e1 := I5.out.b1.cell (j := 0) rfl
    have f1 := I5.out.b1.frozen 0
    by_cases hq : q = 0
    · subst hq
      gi_wp2_with fail
      refine ⟨keeps_chg (F := fun _ => False) (Chg.of_below G5.out) (fun _ _ h => h.elim), Chg.of_below G5.out, I5.out.b0, I5.out.b1, fun x hx => ?_, I5.out.c⟩
      rcases List.mem_append.1 hx with hx | hx
      · exact I5.out.no x hx
      · simp only [List.mem_singleton] at hx
        subst hx
        rw [HW.out]
        rfl
    · have hq' : decide ((0 : Int) < (q : Int)) = true := by simp; omega
      gi_wp2_with fail
      have hc6 : Chg (fun k => k = S0 + 1) W (w5.setCell ⟨S0 + 1, 0, none⟩ (.bool true)) := (Chg.of_below G5.out).trans (Chg.setCell (F := fun k => k = S0 + 1) _ (b := S0 + 1) rfl 0 _)
      refine ⟨keeps_chg hc6 (fun k ob hk hb => ?_), hc6.mono (fun k _ e => .inl e), rfl, I5.out.b1.set 0 _, ?_, I5.out.c.trans (Chg.setCell _ (.inl rfl) 0 _)⟩
      · have := HI.out.b1
        unfold Blk at this
        rw [hk, this] at hb
        cases hb
        rfl
      · unfold withinS
        rw [List.any_eq_true]
        exact ⟨ky, List.mem_filter.2 HIN.out, by rw [HW.out]; simp; omega⟩
  case done =>
    rintro E xs W hE hS hI hD
    have e1 := hI.b1.cell (j := 0) rfl
    have f1 := hI.b1.frozen 0
    have HI := hide hI
    have hno : withinS s ks fa tb n = false := by
      unfold withinS
      rw [← hS, List.any_eq_false]
      intro k hk
      obtain ⟨x, hx, rfl⟩ := List.mem_map.1 hk
      rw [hI.no x hx]
      simp
    clear hI
    gi_wp2_with fail
    have hD' : (W.setCell ⟨S0 + 1, 0, none⟩ (.bool false)).heap[E]? = some (.deferred (some [])) := by
      rw [Below.heap_setCell _ _ _ _ (by have := s4.out; show E ≠ S0 + 1; omega)]
      exact hD
    refine ⟨by simp, .inl ⟨_, _, rfl, run_takeDeferred hD', ?_⟩⟩
    have hs4 := s4.out
    have hp := chg_put (G := fun k => k = E) (W := W.setCell ⟨S0 + 1, 0, none⟩ (.bool false)) (l := E) rfl (.deferred none)
    refine ⟨_, results_bool rfl _ _ (S0 + 1) false rfl ((HI.out.b1.set 0 (.bool false)).chg hp (by omega) |>.cell (j := 0) rfl), ?_, ?_⟩
    · rw [← Hr.out, hno]
    · have hch := (HI.out.c.trans (Chg.setCell _ (.inl rfl) 0 _)).then hp (G := fun k => k = E) (F := fun k => k = S0 + 1 ∨ w4.heap.size ≤ k) (fun i hi e => by subst e; omega)
      exact L4.out.trans (hch.below L4.out.size (fun k hk h => by have := HS0.out; omega))
  case left =>
    rintro E c xs W hE ⟨rfl, hI⟩ hD
    have HI := hide hI
    clear hI
    gi_wp2_with fail
    refine ⟨by simp, .inl ⟨_, _, rfl, run_takeDeferred hD, ?_⟩⟩
    have hs4 := s4.out
    have hp := chg_put (G := fun k => k = E) (W := W) (l := E) rfl (.deferred none)
    refine ⟨_, results_bool rfl _ _ (S0 + 1) true rfl (HI.out.b1.chg hp (by omega) |>.cell (j := 0) rfl), ?_, ?_⟩
    · rw [← Hr.out, HI.out.yes]
    · have hch := HI.out.c.then hp (G := fun k => k = E) (F := fun k => k = S0 + 1 ∨ w4.heap.size ≤ k) (fun i hi e => by subst e; omega)
      exact L4.out.trans (hch.below L4.out.size (fun k hk h => by have := HS0.out; omega))
#print axioms within_any
end Go.Proofs.Ytgaoionnfkbhaaa
