/-
  sum.sealOf, sum.Frame and that of indentureref02: what the calls do.
-/
import Derived.Test.YtmopfipkbjfhoaaDoorJoin
namespace Go.Proofs.YtmopfipkbjfhoaaDoor
open Go.RowKit

/-- Four bytes, the greatest first. -/
def be4 (s : BitVec 32) : List UInt8 := [UInt8.ofNat (s.toNat / 16777216), UInt8.ofNat (s.toNat / 65536), UInt8.ofNat (s.toNat / 256), UInt8.ofNat s.toNat]
theorem be4_length (s : BitVec 32) : (be4 s).length = 4 := rfl
def headed (l : List UInt8) : List UInt8 := enc l.length ++ l
def framed (l : List UInt8) : List UInt8 := headed l ++ be4 (crc (headed l))
theorem Tryd.size44 : (Tryd.prog.info? 44).map (·.size) = some 4 := by kernel_rfl

theorem By_be4 (s : BitVec 32) : By (be4 s) = [.int .u8 ((s.toNat : Int) / 16777216), .int .u8 ((s.toNat : Int) / 65536 % 256), .int .u8 ((s.toNat : Int) / 256 % 256), .int .u8 ((s.toNat : Int) % 256)] := by
  have := s.isLt
  simp [By, be4]
  omega

set_option maxRecDepth 100000 in
theorem sealOf_any (v : Value) (l : List UInt8) (w : World) (hT : Tab w) (h : Rd w v l) (hl : l.length ≤ 140737488355328) :
    Calls Tryd.prog 23 #[v] w fun e w' => e = .returned (.agg (By (be4 (crc l))).toArray) ∧ Below w.heap.size w w' := by
  obtain ⟨s, hs0⟩ : ∃ s, s = crc l := ⟨_, rfl⟩
  have HS : Hid (s = crc l) := hs0
  clear hs0
  rw [← HS.out]
  have HB : Hid (By (be4 s) = _) := By_be4 s
  have hs := s.isLt
  go_enter Tryd.func23, Tryd.ntmps23
  go_wp2_with fail
  refine (of_any v l _ (hT.kept ((Below.refl _ _).alloc (Nat.le_refl _) _)) (h.kept ((Below.refl _ _).alloc (Nat.le_refl _) _)) hl).mono ?_
  rintro e w1 ⟨rfl, hw1⟩
  subst hw1
  rw [← HS.out]
  go_wp2_with fail
  refine bodyPost_ret (v := .agg (By (be4 s)).toArray) (by rw [HB.out]; simp [results, Tryd.results23, go_sem]) rfl ⟨rfl, ?_⟩
  exact (Below.refl _ _).alloc (Nat.le_refl _) _
#print axioms sealOf_any

set_option maxRecDepth 100000 in
theorem frame_big (v : Value) (l : List UInt8) (w : World) (h : Rd w v l) (hl : 8192 < l.length) :
    Calls Tryd.prog 16 #[v] w fun e w' => e = .returned (.slice none 0 0) ∧ w' = w := by
  obtain ⟨a, cap, rfl, h1, h2, h3, h4⟩ := h
  have hl' : (8192 : Int) < l.length := by omega
  go_enter Tryd.func16, Tryd.ntmps16
  go_wp2
  go_ret
  exact ⟨rfl, rfl⟩

theorem own_made (w : World) (B C : Nat) (hB : B ≤ w.heap.size) (hC : C ≤ maxLen) : Own (w.alloc (.cells (List.replicate C (Value.int .u8 0)).toArray 5)) B (.slice (some ⟨w.heap.size, 0, none⟩) 0 C) [] :=
  ⟨rfl, .inr ⟨w.heap.size, C, _, rfl, hB, heap_alloc_new w _, Nat.zero_le _, hC, by simp, by simp [By]⟩⟩
theorem slice44 (g : Nat) (W : World) : (Instr.sliceAt 44 (.pointer (some ⟨g, 0, none⟩)) none none none).run Tryd.prog W = .ok (.slice (some ⟨g, 0, none⟩) 4 4) W := by
  simp [Instr.sliceAt, Instr.sureAddr, run_underlying Tryd.underlying44, Instr.sliceBounds, Addr.add_lit]
theorem rd_four {W : World} {g : Nat} {L : List UInt8} {t : TypeId} (hL : L.length = 4) (hg : W.heap[g]? = some (.cells (By L).toArray t (0, 0))) : Rd W (.slice (some ⟨g, 0, none⟩) 4 4) L := by
  refine ⟨_, 4, by rw [hL], by omega, by simp [maxLen], fun h => by simp at h, fun _ => ⟨g, 0, rfl, (Array.getElem?_eq_some_iff.1 hg).1, fun j u hj => ?_⟩⟩
  rw [cell_of_row W g (0 + j) _ t _ hg]
  simpa using hj

set_option maxRecDepth 100000 in
set_option maxHeartbeats 400000 in
theorem frame_any (v : Value) (l : List UInt8) (w : World) (hT : Tab w) (h : Rd w v l) (hl : l.length ≤ 8192) :
    Calls Tryd.prog 16 #[v] w fun e w' => ∃ v', e = .returned v' ∧ Own w' w.heap.size v' (framed l) ∧ Below w.heap.size w w' := by
  obtain ⟨i0, hi, hz0, hz1, hz2⟩ := info_parts Tryd.info5
  have h0 := h
  obtain ⟨a, cap, rfl, h1, h2, h3, h4⟩ := h
  have hl' : ¬ (8192 : Int) < l.length := by omega
  clear h4 h3
  have hel := enc_length l.length
  have hhl : (headed l).length = (enc l.length).length + l.length := by simp [headed]
  have HF : Hid (framed l = headed l ++ be4 (crc (headed l))) := rfl
  have HH : Hid (headed l = enc l.length ++ l) := rfl
  go_enter Tryd.func16, Tryd.ntmps16
  go_wp2_with fail
  refine (num_any _ [] l.length w (Rd_nil w) (small_pow (by omega)) (by simp)).mono ?_
  rintro e w1 ⟨v1, rfl, ho1, hb1⟩
  simp only [List.nil_append] at ho1
  obtain ⟨a1, cap1, rfl, -⟩ := ho1.rd
  generalize hEN : enc l.length = E at *
  have hs1 := hb1.size
  have ha1 : Below w1.heap.size w1 (w1.alloc (.cells (List.replicate (E.length + l.length + 4) (Value.int .u8 0)).toArray 5)) := (Below.refl _ _).alloc (Nat.le_refl _) _
  go_wp2_with (first
    | (at_make; refine wpList_make_bytes _ rfl _ _ 22 rfl i0 Tryd.underlying22 hi hz0 hz1 hz2 _ _ _ _ 0 (E.length + l.length + 4) rfl rfl rfl (by omega) (by omega) (by omega) ?_)
    | (at_builtin; refine wpList_append_bytes _ rfl (.tmp 20) (.tmp 21) 22 22 rfl w1.heap.size i0 Tryd.underlying22 hi hz0 hz1 hz2 _ [] rfl (by exact own_made w1 _ _ (Nat.le_refl _) (by simp only [maxLen]; omega)) _ E rfl (by exact (ho1.kept ha1).rd.src 22 Tryd.underlying22) (by simp; omega) (by simp) ?_; intro v2 w2 ho2 hb2; simp only [List.nil_append] at ho2)
    | (at_builtin; refine wpList_append_bytes _ rfl (.tmp 22) (.tmp 23) 22 22 rfl w1.heap.size i0 Tryd.underlying22 hi hz0 hz1 hz2 v2 E rfl ho2 _ l rfl (by exact ((h0.kept hb1).kept (ha1.trans hb2)).src 22 Tryd.underlying22) (by omega) (by have := hb2.size; simp at this; omega) ?_; intro v3 w3 ho3 hb3))
  have hb13 : Below w1.heap.size w1 w3 := (ha1.trans hb2).trans hb3
  have hb03 : Below w.heap.size w w3 := hb1.trans (hb13.mono hs1)
  have hs3 := hb03.size
  have hs13 := hb13.size
  refine (sealOf_any v3 (E ++ l) w3 (hT.kept hb03) ho3.rd (by simp; omega)).mono ?_
  rintro e w4 ⟨rfl, hb4⟩
  have hs4 := hb4.size
  have hsl := slice44 w4.heap.size
  obtain ⟨S, HS⟩ : ∃ S, Hid (S = be4 (crc (E ++ l))) := ⟨_, rfl⟩
  have hSl : S.length = 4 := by rw [HS.out, be4_length]
  rw [← HS.out]
  go_wp2_with (first
    | (refine wpList_store_new rfl 44 (.tmp 5) (.tmp 26) rfl w4.heap.size (By S).toArray rfl rfl 44 (By (List.replicate 4 0)).toArray (heap_alloc_new w4 _) (by rw [Tryd.size44]; simp [By_length, hSl]) (by simp [By_length, hSl]) (By_all _) w4.heap.size w4 ((Below.refl _ _).alloc (Nat.le_refl _) _) (Nat.le_refl _) ?_; intro W HGW hbW)
    | (at_builtin; refine wpList_append_bytes _ rfl (.tmp 27) (.tmp 28) 22 22 rfl w1.heap.size i0 Tryd.underlying22 hi hz0 hz1 hz2 v3 (E ++ l) rfl ((ho3.kept hb4).kept hbW) _ S rfl (by exact (rd_four hSl HGW.out).src 22 Tryd.underlying22) (by simp; omega) (by have := hbW.size; omega) ?_; intro v5 w5 ho5 hb5))
  have hb4' : Below w1.heap.size w3 w4 := hb4.mono hs13
  have hbW' : Below w1.heap.size w4 W := hbW.mono (Nat.le_trans hs13 hs4)
  have hb35 : Below w1.heap.size w3 w5 := (hb4'.trans hbW').trans hb5
  go_ret
  refine ⟨_, rfl, ?_, hb03.trans (hb35.mono hs1)⟩
  rw [HF.out, HH.out, ← HS.out]
  exact ho5.mono hs1
#print axioms frame_any

set_option maxRecDepth 100000 in
set_option maxHeartbeats 400000 in
theorem refFrame_any (v : Value) (l : List UInt8) (w : World) (h : Rd w v l) (hl : l.length ≤ 8192) :
    Calls Tryd.prog 19 #[v] w fun e w' => ∃ v', e = .returned v' ∧ Own w' w.heap.size v' (framed l) ∧ Below w.heap.size w w' := by
  obtain ⟨i0, hi, hz0, hz1, hz2⟩ := info_parts Tryd.info5
  have h0 := h
  obtain ⟨a, cap, rfl, h1, h2, h3, h4⟩ := h
  have hl' : ¬ (8192 : Int) < l.length := by omega
  clear h4 h3
  have hel := enc_length l.length
  have HF : Hid (framed l = headed l ++ be4 (crc (headed l))) := rfl
  have HH : Hid (headed l = enc l.length ++ l) := rfl
  go_enter Tryd.func19, Tryd.ntmps19
  go_wp2_with fail
  refine (refNum_any _ [] l.length w (Rd_nil w) (small_pow (by omega)) (by simp)).mono ?_
  rintro e w1 ⟨v1, rfl, ho1, hb1⟩
  simp only [List.nil_append] at ho1
  generalize hEN : enc l.length = E at *
  have hs1 := hb1.size
  go_wp2_with (first
    | (at_builtin; refine wpList_append_bytes _ rfl (.tmp 11) (.tmp 12) 22 22 rfl w.heap.size i0 Tryd.underlying22 hi hz0 hz1 hz2 v1 E rfl ho1 _ l rfl (by exact (h0.kept hb1).src 22 Tryd.underlying22) (by omega) (by omega) ?_; intro v3 w3 ho3 hb3))
  have hb03 : Below w.heap.size w w3 := hb1.trans hb3
  have hs3 := hb03.size
  refine (refOf_any v3 (E ++ l) w3 ho3.rd (by simp; omega)).mono ?_
  rintro e w4 ⟨rfl, hw4⟩
  subst hw4
  obtain ⟨s, HS⟩ : ∃ s, Hid (s = crc (E ++ l)) := ⟨_, rfl⟩
  rw [← HS.out]
  have hB : Hid (By (be4 s) = _) := By_be4 s
  have hs := s.isLt
  go_wp2_with (first
    | (at_builtin; refine wpList_append_bytes _ rfl (.tmp 16) (.tmp 28) 22 22 rfl w.heap.size i0 Tryd.underlying22 hi hz0 hz1 hz2 v3 (E ++ l) rfl (ho3.kept ((Below.refl _ _).alloc (Nat.le_refl _) _)) _ (be4 s) rfl (by exact (rd_four (L := be4 s) rfl (t := 5) (by rw [hB.out]; exact heap_alloc_new _ _)).src 22 Tryd.underlying22) (by simp [be4_length]; omega) (by simp; omega) ?_; intro v5 w5 ho5 hb5))
  go_ret
  refine ⟨_, rfl, ?_, hb03.trans (((Below.refl _ _).alloc hs3 _).trans hb5)⟩
  rw [HF.out, HH.out, ← HS.out]
  exact ho5
#print axioms refFrame_any
end Go.Proofs.YtmopfipkbjfhoaaDoor
