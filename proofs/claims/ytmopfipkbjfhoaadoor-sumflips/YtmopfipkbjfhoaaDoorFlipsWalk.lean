/-
  indenturelaw02.SumFlips: the walk: the call returns true and makes new memory alone.
-/
import Derived.Test.YtmopfipkbjfhoaaDoorOpen2
import Derived.Test.YtmopfipkbjfhoaaDoorPlain4
namespace Go.Proofs.YtmopfipkbjfhoaaDoor
open Go.RowKit

/-- A byte of an own row, read and written. -/
theorem own_turn {w : World} {B g n cap : Nat} {L : List UInt8} (h : Own w B (.slice (some ⟨g, 0, none⟩) n cap) L) (hn : L.length = n) (j : Nat) (hj : j < n) :
    w.cell? ⟨g, j, none⟩ = some (.int .u8 ((L[j]'(by omega)).toNat : Int)) ∧ w.frozen? ⟨g, j, none⟩ = false ∧
    ∀ x : UInt8, Own (w.setCell ⟨g, j, none⟩ (.int .u8 (x.toNat : Int))) B (.slice (some ⟨g, 0, none⟩) n cap) (L.set j x) := by
  subst hn
  refine ⟨?_, World.ownsRow.frozenAt h j, fun x => ?_⟩
  · rw [World.ownsRow.cellAt h j (by omega), By_get hj]
  · have := (World.ownsRow.stored h j (.int .u8 (x.toNat : Int))).1
    unfold Own
    rw [List.length_set]
    have e : By (L.set j x) = (By L).set j (.int .u8 (x.toNat : Int)) := by simp [By, List.map_set]
    rw [e]
    exact this

/-- A bit turned. -/
theorem flip_byte (x : UInt8) (j : Nat) (hj : j < 8) : ∃ y : UInt8, y ≠ x ∧ bits .xor .u8 (x.toNat : Int) ((2 ^ j : Nat) : Int) = (y.toNat : Int) := by
  have h8 : 2 ^ j < 2 ^ 8 := Nat.pow_lt_pow_right (by decide) hj
  have hx := x.toNat_lt
  have hlt : x.toNat ^^^ 2 ^ j < 2 ^ 8 := Nat.xor_lt_two_pow hx h8
  refine ⟨UInt8.ofNat (x.toNat ^^^ 2 ^ j), fun e => ?_, ?_⟩
  · have h1 := congrArg UInt8.toNat e
    have h2 : (UInt8.ofNat (x.toNat ^^^ 2 ^ j)).toNat = x.toNat ^^^ 2 ^ j := Nat.mod_eq_of_lt hlt
    rw [h2] at h1
    have h3 := congrArg (fun z => z.testBit j) h1
    simp [Nat.testBit_xor] at h3
  · have h2 : (UInt8.ofNat (x.toNat ^^^ 2 ^ j)).toNat = x.toNat ^^^ 2 ^ j := Nat.mod_eq_of_lt hlt
    rw [h2]
    exact u8_xor_nat x.toNat (2 ^ j) (by omega) (by omega)

set_option maxRecDepth 100000 in
set_option maxHeartbeats 1000000 in
theorem sumFlips_any (vb : Value) (b : List UInt8) (c : Nat) (w : World) (hT : Tab w) (hb : Rd w vb b) (_hc : Hid (c < 256 ^ 8)) :
    Calls Tryd.prog 7 #[vb, .int .u64 c] w fun e w' => e = .returned (.bool true) ∧ Below w.heap.size w w' := by
  obtain ⟨i0, hi, hz0, hz1, hz2⟩ := info_parts Tryd.info5
  have hb0 := hb
  obtain ⟨a1, c1, rfl, -⟩ := hb
  by_cases h1 : 2000 < b.length
  · have h1' : (2000 : Int) < b.length := by omega
    go_enter Tryd.func7, Tryd.ntmps7
    go_wp2_with fail
    refine (lives_any w hT).mono ?_
    rintro e w1 ⟨rfl, hb1⟩
    go_wp2_with fail
    go_ret
    exact ⟨rfl, hb1⟩
  have h1' : ¬ (2000 : Int) < b.length := by omega
  have hfl := framed_length b
  have hel := enc_length b.length
  have HO : Hid (∀ (p : Nat) (y : UInt8) (h : p < (framed b).length), y ≠ (framed b)[p] → ¬ ((opn ((framed b).set p y)).2.2 = true ∧ (opn ((framed b).set p y)).2.1 = (framed b).length)) := fun p y h hy => opn_turned b p y h hy
  have hF1 : 5 ≤ (framed b).length := by omega
  have hF2 : (framed b).length ≤ 2013 := by omega
  clear hfl hel
  have hr1 : Below w.heap.size w (w.alloc (.cells #[] 5 (0, 0))) := (Below.refl _ _).alloc (Nat.le_refl _) _
  go_enter Tryd.func7, Tryd.ntmps7
  go_wp2_with fail
  refine (frame_any _ b _ (hT.kept hr1) (hb0.kept hr1) (by omega)).mono ?_
  rintro e w1 ⟨v1, rfl, ho1, hb1⟩
  generalize framed b = F at *
  have hs1 := hb1.size
  have hn1 := (own_none w w.heap.size (Nat.le_refl _)).kept hb1
  have hb01 : Below w.heap.size w w1 := hr1.trans (hb1.mono (by simp))
  have hs01 := hb01.size
  go_wp2_with (first
    | (at_builtin; refine wpList_append_bytes _ rfl (.tmp 15) (.tmp 17) 22 22 rfl w.heap.size i0 Tryd.underlying22 hi hz0 hz1 hz2 _ [] rfl hn1 _ F rfl (by exact ho1.rd.src 22 Tryd.underlying22) (by simp; omega) (by omega) ?_; intro v2 w2 ho2 hb2; simp only [List.nil_append] at ho2
       obtain ⟨g, cap, rfl, hg1, hg2, hg3⟩ : ∃ g cap, v2 = .slice (some ⟨g, 0, none⟩) F.length cap ∧ F.length ≤ cap ∧ g < w2.heap.size ∧ w.heap.size ≤ g := by
         obtain ⟨x1, x2⟩ := ho2
         rcases x2 with ⟨rfl, hn⟩ | ⟨g, cap, cur, rfl, hg, hh, hcap, -⟩
         · omega
         · exact ⟨g, cap, rfl, hcap, (Array.getElem?_eq_some_iff.1 hh).1, hg⟩))
  have hb02 : Below w.heap.size w w2 := hb01.trans hb2
  have hT2 := hT.kept hb02
  refine (of_any _ F w2 hT2 ho2.rd (by omega)).mono ?_
  rintro e w3 ⟨rfl, hw3⟩
  subst hw3
  obtain ⟨s, HS⟩ : ∃ s, Hid (s = crc F) := ⟨_, rfl⟩
  rw [← HS.out]
  obtain ⟨p, j, hmI, hp, hj⟩ : ∃ p j : Nat, ((c : Int) % (8 * (F.length : Int))) = ((8 * p + j : Nat) : Int) ∧ p < F.length ∧ j < 8 := by
    have h0 : c % (8 * F.length) < 8 * F.length := Nat.mod_lt _ (by omega)
    refine ⟨c % (8 * F.length) / 8, c % (8 * F.length) % 8, ?_, by omega, by omega⟩
    rw [Nat.div_add_mod]
    rfl
  have hmod : ¬ (8 * (F.length : Int)) = 0 := by omega
  obtain ⟨m, hm⟩ : ∃ m, m = 8 * p + j := ⟨_, rfl⟩
  rw [← hm] at hmI
  have hq1 : (m : Int) / 8 = (p : Int) := by omega
  have hq2 : (m : Int) % 8 = (j : Int) := by omega
  have hmb : m ≤ 16200 := by omega
  have HM : Hid (m = 8 * p + j) := hm
  clear hm
  obtain ⟨t1, t2, t3⟩ := own_turn ho2 rfl p hp
  obtain ⟨y, hy1, hy2⟩ := flip_byte F[p] j hj
  have h256 : 2 ^ j < 2 ^ 8 := Nat.pow_lt_pow_right (by decide) hj
  have ej : ((2 : Int) ^ j % 256) = ((2 ^ j : Nat) : Int) := by
    have e1 : ((2 ^ j : Nat) : Int) = (2 : Int) ^ j := by simp
    rw [e1, Int.emod_eq_of_lt (by rw [← e1]; exact Int.natCast_nonneg _) (by rw [← e1]; exact Int.ofNat_lt.2 h256)]
  have hy3 : bits .xor .u8 (F[p].toNat : Int) ((2 : Int) ^ j % 256) = (y.toNat : Int) := by rw [ej]; exact hy2
  have HX := HO.out p y hp hy1
  have HC := crc_set F p y hp hy1
  rw [← HS.out] at HC
  have ho4 : Own (w3.setCell ⟨g, p, none⟩ (.int .u8 (bits .xor .u8 (F[p].toNat : Int) ((2 : Int) ^ j % 256)))) w.heap.size (.slice (some ⟨g, 0, none⟩) F.length cap) (F.set p y) := by
    rw [hy3]; exact t3 y
  have hb04 : Below w.heap.size w (w3.setCell ⟨g, p, none⟩ (.int .u8 (bits .xor .u8 (F[p].toNat : Int) ((2 : Int) ^ j % 256)))) := hb02.setCell hg3 _
  have H3 : Hid (Own (w3.setCell ⟨g, p, none⟩ (.int .u8 (bits .xor .u8 (F[p].toNat : Int) ((2 : Int) ^ j % 256)))) w.heap.size (.slice (some ⟨g, 0, none⟩) F.length cap) (F.set p y)) := ho4
  have H4 : Hid (Below w.heap.size w (w3.setCell ⟨g, p, none⟩ (.int .u8 (bits .xor .u8 (F[p].toNat : Int) ((2 : Int) ^ j % 256))))) := hb04
  have hFl : (F.set p y).length = F.length := List.length_set
  clear ho4 hb04 hy3 ej hy2 t3 h256 hy1
  generalize hG : F.set p y = G at *
  have HG : Hid (F.set p y = G) := hG
  clear hG
  go_wp2_with fail
  have ho4 := H3.out
  have hb04 := H4.out
  clear H3 H4
  generalize (w3.setCell ⟨g, p, none⟩ (.int .u8 (bits .xor .u8 (F[p].toNat : Int) ((2 : Int) ^ j % 256)))) = w4 at *
  refine (open_any _ G w4 (hT.kept hb04) ho4.rd (by omega)).mono ?_
  rintro e w5 ⟨v5, rfl, -, hb5⟩
  generalize (opn G).2.2 = q at *
  generalize (opn G).2.1 = X at *
  have hb05 : Below w.heap.size w w5 := hb04.trans (hb5.mono hb04.size)
  have ho5 := ho4.kept hb5
  obtain ⟨z, HZ⟩ : ∃ z, Hid (z = crc G) := ⟨_, rfl⟩
  rw [← HZ.out] at HC
  have hz : ((z.toNat : Int) != (s.toNat : Int)) = true := by
    simp only [bne_iff_ne, ne_eq]
    intro h
    exact HC (BitVec.eq_of_toNat_eq (by omega))
  clear HC
  cases q
  · clear HX
    go_wp2_with fail
    refine (of_any _ G w5 (hT.kept hb05) ho5.rd (by omega)).mono ?_
    rintro e w6 ⟨rfl, hw6⟩
    subst hw6
    rw [← HZ.out]
    go_wp2_with fail
    refine (lives_any _ (hT.kept hb05)).mono ?_
    rintro e w7 ⟨rfl, hb7⟩
    go_wp2_with fail
    go_ret
    exact ⟨rfl, hb05.trans (hb7.mono hb05.size)⟩
  · have hX : ((X : Int) != (F.length : Int)) = true := by
      simp only [bne_iff_ne, ne_eq]
      intro h
      exact HX ⟨rfl, by omega⟩
    clear HX
    go_wp2_with fail
    refine (of_any _ G w5 (hT.kept hb05) ho5.rd (by omega)).mono ?_
    rintro e w6 ⟨rfl, hw6⟩
    subst hw6
    rw [← HZ.out]
    go_wp2_with fail
    refine (lives_any _ (hT.kept hb05)).mono ?_
    rintro e w7 ⟨rfl, hb7⟩
    go_wp2_with fail
    go_ret
    exact ⟨rfl, hb05.trans (hb7.mono hb05.size)⟩
#print axioms sumFlips_any
end Go.Proofs.YtmopfipkbjfhoaaDoor
