/-
  living, merge, Overlay: what the calls do.
-/
import Derived.Test.YtfjlkncliljjnaaBfG
namespace Go.Proofs.Ytfjlkncliljjnaa
open Go.RowKit
set_option maxHeartbeats 4000000 in
set_option maxRecDepth 100000 in
theorem living_any {w : World} {B1 B2 N : Nat} {l r : List Pr} (h : Ms w B1 B2 N l r) (hne : B1 ≠ B2) (hN : N ≤ w.heap.size) (m : Int) (hlr : l.length + r.length ≤ 1000000) :
    Calls Try.prog 34 #[.func (.func 42) #[] #[PT B1, PT B2], .int .i64 m] w fun e w' => ∃ v, e = .returned v ∧ OwnG PE w' w.heap.size 38 v ((ovl l r).take m.toNat) ∧ Chg (fun b => b = B1 ∨ b = B2) w w' := by
  have hz := Zpair
  have HM := hide h
  have hB : B1 < w.heap.size ∧ B2 < w.heap.size := by obtain ⟨v, u, g1, g2, -⟩ := h; exact ⟨g1.lt, g2.lt⟩
  obtain ⟨N0, HN0⟩ : ∃ N, Hid (w.heap.size = N) := ⟨_, rfl⟩
  rw [HN0.out] at hB hN ⊢
  obtain ⟨hB1, hB2⟩ := hB
  obtain ⟨T, HT⟩ : ∃ T, Hid ((ovl l r).take m.toNat = T) := ⟨_, rfl⟩
  rw [HT.out]
  have HL := hide hlr
  clear h
  go_enter Try.func34, Try.ntmps34
  go_wp2_with fail
  go_loopg [5] (l.length + r.length + 1) (fun g z wr => ∃ (out l' r' : List Pr) (a : Option Addr) (n c : Nat), z = .slice a n c ∧ g = l'.length + r'.length + 1 ∧ Hid (out.length = n) ∧ Hid (OwnG PE wr N0 38 (.slice a n c) out) ∧ Hid (Ms wr B1 B2 N l' r') ∧ Hid (out ++ (ovl l' r').take (m.toNat - out.length) = T) ∧ Hid (Chg (fun b => b = B1 ∨ b = B2) w wr) ∧ Hid (out.length + l'.length + r'.length ≤ 1000000))
  case atStart => exact ⟨[], l, r, none, 0, 0, rfl, rfl, (show _ = _ from rfl), ownG_nil _ _ _, HM, (show _ = _ by rw [← HT.out]; simp), Chg.refl _ _, (show _ ≤ _ by have := HL.out; simp; omega)⟩
  case round =>
    obtain ⟨out, l', r', a, n, c, rfl, hg, HNn, HO, HMs, HTT, HC, HLL⟩ := hrel
    have hwr : N0 ≤ wr.heap.size := by rw [← HN0.out]; exact HC.out.size
    by_cases hlt : (n : Int) < m
    · have q0 : decide ((n : Int) < m) = true := by simp; omega
      have CN := hide (next_any HMs.out hne (by omega))
      go_wp2_with fail
      refine CN.out.mono ?_
      rintro e w2 ⟨q, ok, l2, r2, rfl, hms2, hc2, hcase⟩
      have M2 := hide hms2
      have C2 : Hid (Chg (fun b => b = B1 ∨ b = B2) w w2) := (show _ from HC.out.trans hc2)
      have O2 := hide (HO.out.chg hc2 (fun b hb h => by have := (HO.out.block hb).1; omega))
      have HCS := hide hcase
      obtain ⟨E, HE⟩ : ∃ E, Hid (w2.heap.size = E) := ⟨_, rfl⟩
      have hwE : N0 ≤ E := by rw [← HE.out]; have := hc2.size; omega
      clear hms2 hc2 hcase CN HMs HO HC
      obtain ⟨w3, hw3⟩ : ∃ y, y = w2.alloc (.cells (PC q).toArray 38 (0, 0)) := ⟨_, rfl⟩
      have hb3 : Below w2.heap.size w2 w3 := by rw [hw3]; exact (Below.refl _ _).alloc (Nat.le_refl _) _
      have B3 : Hid (Blk w3 E 38 (PC q)) := (show Blk _ _ _ _ by rw [hw3, ← HE.out]; exact Blk.new w2 38 (PC q))
      have M3 := hide (M2.out.chg (F := fun _ => False) (Chg.of_below hb3) id id (fun _ h => h.elim))
      have O3 := hide (O2.out.kept hb3)
      have C3 : Hid (Chg (fun b => b = B1 ∨ b = B2) w w3) := (show _ from C2.out.trans (Chg.of_below hb3))
      have HW3 := hide hw3
      have hE3 : N0 ≤ w3.heap.size := by have := B3.out.lt; omega
      clear hw3 hb3 M2 O2 C2
      cases ok with
      | false =>
        have HX : Hid (T = out) := (show _ = _ by
          rcases HCS.out with ⟨-, h1, rfl, rfl⟩ | ⟨h1, -⟩
          · rw [← HTT.out, ovl_none h1]; simp
          · cases h1)
        go_wp2_with (first
          | (refine wpList_store_new rfl 38 _ _ rfl w2 _ (PC q).toArray _ rfl rfl rfl Try.size38 rfl (all_one (PC_one q)) ?_; rw [← HW3.out, HE.out])
          | fail)
        go_ret
        refine ⟨_, rfl, ?_, C3.out⟩
        rw [HX.out]
        exact O3.out
      | true =>
        have HX : Hid (nxt l' r' = some (q, l2, r2)) := (show _ = _ by
          rcases HCS.out with ⟨h1, -⟩ | ⟨-, h1⟩
          · cases h1
          · exact h1)
        have hln := nxt_len HX.out
        simp only at hln
        have cD := B3.out.dead
        obtain ⟨d, HD⟩ : ∃ d, Hid (q.2.2 = d) := ⟨_, rfl⟩
        rw [HD.out] at cD
        have hov := ovl_some HX.out
        simp only at hov
        rw [HD.out] at hov
        have HOV := hide hov
        clear hov HCS
        cases d with
        | true =>
          go_wp2_with (first
            | (refine wpList_store_new rfl 38 _ _ rfl w2 _ (PC q).toArray _ rfl rfl rfl Try.size38 rfl (all_one (PC_one q)) ?_; rw [← HW3.out, HE.out])
            | fail)
          go_roundg (l2.length + r2.length + 1)
          case measure => omega
          case rel => exact ⟨out, l2, r2, a, n, c, rfl, rfl, HNn, O3, M3, (show _ = _ by rw [← HTT.out, HOV.out]; simp), C3, (show _ ≤ _ by have := HLL.out; omega)⟩
        | false =>
          have HL9 : Hid (out.length + [q].length ≤ 10000000) := (show _ ≤ _ by have := HLL.out; rw [List.length_singleton]; omega)
          have HL8 : Hid (N0 ≤ (w3.alloc (.cells (PC q).toArray 38 (0, 0))).heap.size) := (show _ ≤ _ by simp; omega)
          go_wp2_with (first
            | (refine wpList_store_new rfl 38 _ _ rfl w2 _ (PC q).toArray _ rfl rfl rfl Try.size38 rfl (all_one (PC_one q)) ?_; rw [← HW3.out, HE.out])
            | (refine wpList_load_mid rfl 38 _ rfl E 0 rfl (PC q) _ B3.out.range0 Try.underlying38 rfl Try.size38 ?_)
            | (refine wpList_build_row rfl _ rfl q rfl ?_)
            | (refine wpList_append_E Try.underlying28 infoP9 (by decide) rfl (.tmp 22) (.tmp 24) rfl N0 (.slice a n c) out rfl (O3.out.kept ((Below.refl _ _).alloc (Nat.le_refl _) _)) (.slice (some ⟨w3.heap.size, 0, none⟩) 1 1) [q] rfl (rdG_one (E := PE) w3 38 q) HL9.out HL8.out ?_; intro v9 w9 o9 g9 q9; have O9 := hide o9; have G9 := hide g9; clear o9 g9 q9; obtain ⟨p9, c9, hv9⟩ := O9.out.form; obtain ⟨n2, hn2⟩ : ∃ k, (out ++ [q]).length = k := ⟨_, rfl⟩; rw [hn2] at hv9; subst hv9; have HN2 := hide hn2; clear hn2)
            | fail)
          have hG : Chg (fun b => (Value.slice a n c).ownBlock = some b) w3 w9 := (Chg.alloc _ w3 (.cells (PC q).toArray 38 (0, 0))).trans (Chg.of_grown G9.out (fun k e _ => e))
          have hOb : ∀ b, (Value.slice a n c).ownBlock = some b → N0 ≤ b := fun b hb => (O3.out.block hb).1
          have M9 := hide (M3.out.chg hG (fun h => by have := hOb _ h; omega) (fun h => by have := hOb _ h; omega) (fun k h hk => by have := hOb _ h; omega))
          have C9 : Hid (Chg (fun b => b = B1 ∨ b = B2) w w9) := (show _ from C3.out.then hG (fun k hk h => by have := hOb _ h; rw [HN0.out] at hk; omega))
          clear hG hOb
          go_roundg (l2.length + r2.length + 1)
          case measure => omega
          case rel =>
            refine ⟨out ++ [q], l2, r2, p9, n2, c9, rfl, rfl, HN2, O9, M9, (show _ = _ by
              rw [← HTT.out, HOV.out, if_neg (by simp), List.append_assoc]
              have hpos : m.toNat - out.length = (m.toNat - (out ++ [q]).length) + 1 := by
                rw [List.length_append, List.length_singleton, HNn.out]
                omega
              rw [hpos, List.take_succ_cons]
              rfl), C9, (show _ ≤ _ by have := HLL.out; rw [List.length_append, List.length_singleton]; omega)⟩
    · have q0 : decide ((n : Int) < m) = false := by simp; omega
      have HX : Hid (T = out) := (show _ = _ by
        rw [← HTT.out, HNn.out, show m.toNat - n = 0 by omega]
        simp)
      go_wp2_with fail
      go_ret
      refine ⟨_, rfl, ?_, HC.out⟩
      rw [HX.out]
      exact HO.out
set_option maxRecDepth 100000 in
theorem merge_any (a : Option Addr) (n c : Nat) (a' : Option Addr) (n' c' : Nat) (w : World) : Calls Try.prog 35 #[.slice a n c, .slice a' n' c'] w fun e w' => e = .returned (.func (.func 42) #[] #[PT w.heap.size, PT (w.heap.size + 1)]) ∧ w' = (w.alloc (.cells #[.slice a n c] 28 (0, 0))).alloc (.cells #[.slice a' n' c'] 28 (0, 0)) := by
  go_enter Try.func35, Try.ntmps35
  go_wp2
  go_ret
  exact ⟨by simp, rfl⟩
theorem ms_new {w w' : World} {a a' : Option Addr} {n c n' c' : Nat} {l r : List Pr} (h1 : RdG PE w (.slice a n c) l) (h2 : RdG PE w (.slice a' n' c') r) (hw : w' = (w.alloc (.cells #[.slice a n c] 28 (0, 0))).alloc (.cells #[.slice a' n' c'] 28 (0, 0))) :
    Ms w' w.heap.size (w.heap.size + 1) w.heap.size l r ∧ Below w.heap.size w w' := by
  subst hw
  have hb : Below w.heap.size w ((w.alloc (.cells #[.slice a n c] 28 (0, 0))).alloc (.cells #[.slice a' n' c'] 28 (0, 0))) := ((Below.refl _ _).alloc (Nat.le_refl _) _).alloc (by simp) _
  refine ⟨⟨_, _, (Blk.new w 28 [.slice a n c]).alloc _, ?_, h1.kept hb, h2.kept hb, fun b hb => ?_, fun b hb => ?_⟩, hb⟩
  · have := Blk.new (w.alloc (.cells #[.slice a n c] 28 (0, 0))) 28 [.slice a' n' c']
    rw [World.size_alloc] at this
    exact this
  · have := h1.inB_lt hb
    omega
  · have := h2.inB_lt hb
    omega
set_option maxHeartbeats 1000000 in
set_option maxRecDepth 100000 in
theorem overlay_any {w : World} {vl vr : Value} {l r : List Pr} (h1 : RdG PE w vl l) (h2 : RdG PE w vr r) (hlr : l.length + r.length ≤ 1000000) :
    Calls Try.prog 23 #[vl, vr] w fun e w' => ∃ v, e = .returned v ∧ OwnG PE w' w.heap.size 38 v (ovl l r) ∧ Below w.heap.size w w' := by
  obtain ⟨a, c, rfl⟩ := h1.slice
  obtain ⟨a', c', rfl⟩ := h2.slice
  have H1 := hide h1
  have H2 := hide h2
  obtain ⟨n, HN⟩ : ∃ n, Hid (l.length = n) := ⟨_, rfl⟩
  obtain ⟨n', HN'⟩ : ∃ n, Hid (r.length = n) := ⟨_, rfl⟩
  rw [HN.out] at H1 ⊢
  rw [HN'.out] at H2 ⊢
  have CM := hide (merge_any a n c a' n' c' w)
  obtain ⟨E, HE⟩ : ∃ E, Hid (w.heap.size = E) := ⟨_, rfl⟩
  rw [HE.out] at CM ⊢
  clear h1 h2
  go_enter Try.func23, Try.ntmps23
  go_wp2_with fail
  refine CM.out.mono ?_
  rintro e w2 ⟨rfl, hw2⟩
  obtain ⟨hms, hb2⟩ := ms_new H1.out H2.out hw2
  rw [HE.out] at hms
  have CL := hide (living_any hms (by omega) (by have := hb2.size; have := HE.out; omega) 9223372036854775807 hlr)
  have L2 := hide hb2
  clear hw2 hms hb2 CM
  go_wp2_with fail
  refine CL.out.mono ?_
  rintro e w3 ⟨v, rfl, ho, hc⟩
  have e9 : (ovl l r).take (9223372036854775807 : Int).toNat = ovl l r := List.take_of_length_le (by
    have := ovl_len l r
    have e8 : (9223372036854775807 : Int).toNat = 9223372036854775807 := rfl
    omega)
  rw [e9] at ho
  have L3 : Hid (Below E w w3) := (show _ from (L2.out.mono (Nat.le_of_eq HE.out.symm)).trans (hc.below (by have := L2.out.size; have := HE.out; omega) (fun k hk h => by omega)))
  have O3 := hide (ho.mono (by have := L2.out.size; have := HE.out; omega : E ≤ w2.heap.size))
  obtain ⟨a3, c3, rfl⟩ := ho.form
  obtain ⟨n3, HN3⟩ : ∃ n, Hid ((ovl l r).length = n) := ⟨_, rfl⟩
  rw [HN3.out] at O3 ⊢
  clear ho hc e9
  go_wp2_with fail
  go_ret
  exact ⟨_, rfl, O3.out, L3.out⟩
#print axioms overlay_any
end Go.Proofs.Ytfjlkncliljjnaa
