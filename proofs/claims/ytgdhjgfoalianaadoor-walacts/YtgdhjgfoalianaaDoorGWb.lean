/-
  Texts that ride together: WalW WalO WalL WalM WalV.
-/
import Derived.Test.YtgdhjgfoalianaaDoorGWa
import Derived.Test.YtgdhjgfoalianaaDoorGDc
import Derived.Lib.SlBytesConst
/-
  wal.wipe: what the call does to a disk.
-/
namespace Go.Proofs.YtgdhjgfoalianaaDoor
open Go.RowKit
open Pd (DM)

/-- What is wiped: k sectors from place p on; q: was one wiped? -/
def wipeF (b : List UInt8) : Nat → Nat → Bool → DM → Nat × DM
  | 0, _, q, m => if q then Pd.sync m else (0, m)
  | k + 1, p, q, m => if nought ((b.drop p).take 32) then wipeF b k (p + 32) q m else
      if (Pd.write m (p : Int) Zs).1 = 0 then wipeF b k (p + 32) true (Pd.write m (p : Int) Zs).2 else Pd.write m (p : Int) Zs

theorem Step.thenS {c c' c'' : Nat → Nat} {i : Nat} {w w' w'' : World} (h : Step c i w c' w') (k : Step c' i w' c'' w'') : Step c i w c'' w'' :=
  ⟨h.chg.then k.chg (fun j hj e => (h.ext j hj).symm.trans e), fun j hj => (k.ext j (Nat.lt_of_lt_of_le hj h.size)).trans (h.ext j hj), k.norm⟩
theorem Step.keptS {c : Nat → Nat} {i : Nat} {w w' : World} (hn : ∀ k, w.heap.size ≤ k → c k = 0) (hb : Below w.heap.size w w') : Step c i w c w' :=
  ⟨Chg.of_below hb, fun _ _ => rfl, fun k hk => hn k (Nat.le_trans hb.size hk)⟩

theorem wf_nat {k : Nat} (h : k ≤ 1000000000) : (Lit.int .i64 (k : Int)).wf = true := by
  exact WalkArith.wf_i64 (by omega)
theorem rd_blk0 {w : World} {g : Nat} {T : TypeId} {l : List UInt8} {n : Nat} (h : Blk w g T (By l)) (hn : l.length = n) (hm : n ≤ 1000000 := by omega) : Rd w (.slice (some ⟨g, 0, none⟩) n n) l := by
  subst hn
  refine ⟨some ⟨g, 0, none⟩, l.length, rfl, Nat.le_refl _, by simp only [maxLen]; omega, fun e => by simp at e, fun _ => ⟨g, 0, rfl, h.lt, fun j u hj => ?_⟩⟩
  rw [Nat.zero_add]
  exact h.cell hj

set_option maxRecDepth 100000 in
set_option maxHeartbeats 1000000 in
theorem wipe_any {w : World} {c : Nat → Nat} {i D n : Nat} {m : DM} (h : IsD w c i D n m) (hc : ∀ k, w.heap.size ≤ k → c k = 0) (v : Value) (b : List UInt8) (hr : Rd w v b) (hv : Cool c v) (p k : Nat) (hk : p + 32 * k = b.length) (hb : b.length ≤ 1000000) :
    Calls Tryd.prog 54 #[.pointer (some ⟨D, 0, none⟩), v, .int .i64 (p : Int)] w fun e w' => e = .returned (.int .i64 ((wipeF b k p false m).1 : Int)) ∧ ∃ c', IsD w' c' i D n (wipeF b k p false m).2 ∧ Step c i w c' w' := by
  have hi0 : i ≠ 0 := by obtain ⟨S, M, cap, N, vo, vk, s, hA, hW, hR, h1, h2, h3, h4, h5, h6⟩ := h; exact h6
  have hz := zeroW
  have hs := slice_wsec
  have ba : Below w.heap.size w (w.alloc (.cells (By Zs).toArray 100)) := (Below.refl _ _).alloc (Nat.le_refl _) _
  obtain ⟨w0, hw0⟩ : ∃ w0, w.alloc (.cells (By Zs).toArray 100) = w0 := ⟨_, rfl⟩
  have H0 : Hid (IsD w0 c i D n m) := by rw [← hw0]; exact h.kept ba (fun _ _ => rfl)
  have HC0 : Hid (∀ k, w0.heap.size ≤ k → c k = 0) := by rw [← hw0]; exact fun k hk => hc k (Nat.le_trans ba.size hk)
  have HB0 : Hid (Blk w0 w.heap.size 100 (By Zs)) := by rw [← hw0]; exact Blk.new w 100 (By Zs)
  have HR0 : Hid (Rd w0 v b) := by rw [← hw0]; exact hr.kept ba
  have HCG : Hid (c w.heap.size = 0) := hc _ (Nat.le_refl _)
  have HV := hide hv
  obtain ⟨a, cap, hvv⟩ := hr.slice
  subst hvv
  have hcap := rd_cap hr
  have HBA : Hid (Below w.heap.size w w0) := by rw [← hw0]; exact ba
  have HI := hide hi0
  clear h hc hr hv ba hi0
  go_enter Tryd.func54, Tryd.ntmps54
  go_wp2_with fail
  clear hw0 hz
  go_loopg [8, 9] k (fun g x y wr => ∃ (q : Bool) (p' : Nat) (cr : Nat → Nat) (mr : DM), x = .bool q ∧ y = .int .i64 (p' : Int) ∧ p' + 32 * g = b.length ∧ Hid (IsD wr cr i D n mr) ∧ Hid (Step c i w0 cr wr) ∧ Hid (wipeF b g p' q mr = wipeF b k p false m))
  case atStart => exact ⟨false, p, c, m, rfl, rfl, hk, H0, Step.keptS HC0.out (Below.refl _ _), rfl⟩
  case round =>
    obtain ⟨q, p', cr, mr, rfl, rfl, hp, HD, HS, HW⟩ := hrel
    have HRr : Hid (Rd wr (.slice a b.length cap) b) := HR0.out.chg HS.out.chg (fun x hx e => HI.out ((e.symm.trans (HV.out x hx)).trans rfl))
    have HBr : Hid (Blk wr w.heap.size 100 (By Zs)) := HB0.out.chg HS.out.chg (fun e => HI.out (e.symm.trans HCG.out))
    have HNr := hide HS.out.norm
    cases gk with
    | zero =>
      have q1 : ¬ (p' : Int) < (b.length : Int) := by omega
      cases q with
      | false =>
        go_wp2_with fail
        go_ret
        rw [← HW.out]
        exact ⟨rfl, cr, HD.out, HS.out.ahead HBA.out⟩
      | true =>
        go_wp2_with fail
        refine (dSync_any HD.out HNr.out).mono ?_
        rintro e w1 ⟨rfl, c1, hd1, hs1⟩
        have HW1 : Hid (wipeF b k p false m = Pd.sync mr) := HW.out.symm
        generalize Pd.sync mr = z at HW1 hd1 hs1 ⊢
        have HD1 := hide hd1
        have HS1 := hide hs1
        clear hd1 hs1
        go_wp2_with fail
        go_ret
        rw [HW1.out]
        exact ⟨rfl, c1, HD1.out, (HS.out.thenS HS1.out).ahead HBA.out⟩
    | succ g =>
      have q1 : (p' : Int) < (b.length : Int) := by omega
      obtain ⟨a2, hsl2, hrd2⟩ := slice_both a b.length cap p' (p' + 32) (by omega) (by omega) hcap
      have HZ := hide (hrd2 _ _ HRr.out)
      rw [show p' + 32 - p' = 32 by omega] at HZ hsl2
      clear hrd2
      rw [show ((p' + 32 : Nat) : Int) = (p' : Int) + 32 by omega] at hsl2
      have hp8 : p' ≤ 1000000 := by omega
      have HP := hide hp
      clear hp
      go_wp2_with fail
      refine (isNought_any _ _ _ HZ.out (by simp; omega)).mono ?_
      rintro e w1 ⟨rfl, hb1⟩
      have HD1 : Hid (IsD w1 cr i D n mr) := HD.out.kept hb1 (fun _ _ => rfl)
      have HS1 : Hid (Step c i w0 cr w1) := HS.out.thenS (Step.keptS HNr.out hb1)
      cases hn : nought ((b.drop p').take 32) with
      | true =>
        have HW1 : Hid (wipeF b g (p' + 32) q mr = wipeF b k p false m) := by
          show wipeF b g (p' + 32) q mr = _
          rw [← HW.out, show wipeF b (g + 1) p' q mr = wipeF b g (p' + 32) q mr from by rw [wipeF, if_pos hn]]
        clear hn
        go_wp2_with fail
        go_roundg g
        case measure => omega
        case rel => exact ⟨q, p' + 32, cr, mr, rfl, by simp, by have := HP.out; omega, HD1, HS1, HW1⟩
      | false =>
        have HRz : Hid (Rd w1 (.slice (some ⟨w.heap.size, 0, none⟩) 32 32) Zs) := rd_blk0 (HBr.out.kept hb1) (by simp [Zs])
        have HN1 := hide HS1.out.norm
        have HCz : Hid (Cool cr (.slice (some ⟨w.heap.size, 0, none⟩) 32 32)) := fun x hx => by rw [InB_at hx, HS1.out.ext _ (HB0.out.lt), HCG.out]
        have HW1 : Hid (wipeF b (g + 1) p' q mr = if (Pd.write mr (p' : Int) Zs).1 = 0 then wipeF b g (p' + 32) true (Pd.write mr (p' : Int) Zs).2 else Pd.write mr (p' : Int) Zs) := by
          show wipeF b (g + 1) p' q mr = _
          rw [wipeF, if_neg (by simp [hn])]
        clear hn
        go_wp2_with fail
        refine (dWrite_any HD1.out HN1.out (p' : Int) (wf_nat (by omega)) _ Zs HRz.out HCz.out).mono ?_
        rintro e w2 ⟨rfl, c2, hd2, hs2⟩
        generalize Pd.write mr (p' : Int) Zs = z at HW1 hd2 hs2 ⊢
        obtain ⟨er, m2⟩ := z
        have HD2 : Hid (IsD w2 c2 i D n m2) := hd2
        have HS2 : Hid (Step c i w0 c2 w2) := HS1.out.thenS hs2
        clear hd2 hs2
        by_cases he : er = 0
        · subst he
          have HW2 : Hid (wipeF b g (p' + 32) true m2 = wipeF b k p false m) := by rw [← HW.out, HW1.out]; rfl
          go_wp2_with fail
          go_roundg g
          case measure => omega
          case rel => exact ⟨true, p' + 32, c2, m2, rfl, by simp, by have := HP.out; omega, HD2, HS2, HW2⟩
        · have HW2 : Hid (wipeF b k p false m = (er, m2)) := by
            show wipeF b k p false m = _
            rw [← HW.out, HW1.out, if_neg he]
          have he' : ¬ (er : Int) = 0 := by omega
          go_wp2_with fail
          go_ret
          rw [HW2.out]
          exact ⟨rfl, c2, HD2.out, HS2.out.ahead HBA.out⟩
#print axioms wipe_any
end Go.Proofs.YtgdhjgfoalianaaDoor

/-
  wal.Open: what the call does to a disk, and the log that it tells.
-/
namespace Go.Proofs.YtgdhjgfoalianaaDoor
open Go.RowKit
open Pd (DM)

/-- A log in memory. -/
def LogB (w : World) (L D E C Y : Nat) : Prop := Blk w L 61 [.pointer (some ⟨D, 0, none⟩), .int .i64 (E : Int), .int .i64 (C : Int), .int .i64 (Y : Int)]
/-- The rows L, in memory that nobody writes to. -/
def CoolR (w : World) (c : Nat → Nat) (v : Value) (L : List (List UInt8)) : Prop :=
  ∃ a cap, v = .slice a L.length cap ∧ (0 < L.length → ∃ b off, a = some ⟨b, off, none⟩ ∧ b < w.heap.size ∧ c b = 0 ∧ ∀ j (hj : j < L.length), ∃ u, w.cell? ⟨b, off + j, none⟩ = some u ∧ Rd w u L[j] ∧ Cool c u)
theorem CoolR.rd {w : World} {c : Nat → Nat} {v : Value} {L : List (List UInt8)} (h : CoolR w c v L) : RdR w v L := by
  obtain ⟨a, cap, rfl, h1⟩ := h
  refine ⟨a, cap, rfl, fun hl => ?_⟩
  obtain ⟨b, off, rfl, hlt, _, hc⟩ := h1 hl
  exact ⟨b, off, rfl, hlt, fun j hj => by obtain ⟨u, h1, h2, _⟩ := hc j hj; exact ⟨u, h1, h2⟩⟩
theorem CoolR.chg {w w' : World} {c c' : Nat → Nat} {F : Nat → Prop} {v : Value} {L : List (List UInt8)} (h : CoolR w c v L) (hc : Chg F w w') (hF : ∀ k, k < w.heap.size → c k = 0 → ¬ F k) (he : ∀ k, k < w.heap.size → c' k = c k) : CoolR w' c' v L := by
  obtain ⟨a, cap, rfl, h1⟩ := h
  refine ⟨a, cap, rfl, fun hl => ?_⟩
  obtain ⟨b, off, rfl, hlt, hb, hh⟩ := h1 hl
  refine ⟨b, off, rfl, Nat.lt_of_lt_of_le hlt hc.size, (he b hlt).trans hb, fun j hj => ?_⟩
  obtain ⟨u, h2, h3, h4⟩ := hh j hj
  exact ⟨u, (hc.cellAt hlt (hF b hlt hb)).trans h2, h3.chg hc (fun x hx => hF x (h3.inB_lt hx) (h4 x hx)), fun x hx => (he x (h3.inB_lt hx)).trans (h4 x hx)⟩
theorem CoolR.step {w w' : World} {c c' : Nat → Nat} {i : Nat} {v : Value} {L : List (List UInt8)} (h : CoolR w c v L) (hs : Step c i w c' w') (hi : i ≠ 0) : CoolR w' c' v L :=
  h.chg hs.chg (fun _ _ h0 h1 => hi (h1.symm.trans h0)) hs.ext
theorem Own.inB {w : World} {B : Nat} {v : Value} {l : List UInt8} (h : Own w B v l) {x : Nat} (hx : InB v x) : B ≤ x := by
  obtain ⟨off, n, cap, rfl, h0⟩ := hx
  rcases h.2 with ⟨e, _⟩ | ⟨g, c, _, e, hB, _⟩
  · cases e
  · cases e; exact hB
theorem OwnR.cool {w : World} {B : Nat} {c : Nat → Nat} {v : Value} {L : List (List UInt8)} (h : OwnR w B v L) (hc : ∀ k, B ≤ k → c k = 0) : CoolR w c v L := by
  obtain ⟨us, hl, hr, ho⟩ := h
  have hr0 := hr
  rcases hr.2 with ⟨rfl, h0⟩ | ⟨g, cap, cur, rfl, hB, hh, _⟩
  · exact ⟨none, 0, by rw [h0], fun h => by omega⟩
  · refine ⟨_, _, rfl, fun hp => ⟨g, 0, rfl, (Array.getElem?_eq_some_iff.1 hh).1, hc g hB, fun j hj => ?_⟩⟩
    have hj' : j < us.length := by omega
    refine ⟨us[j], ?_, (ho j hj' hj).rd, fun x hx => hc x ((ho j hj' hj).inB hx)⟩
    have := World.ownsRow.cells hr0 (g := g) rfl j us[j] (List.getElem?_eq_getElem hj')
    simpa [Addr.add_lit] using this

/-- What Open does, plain: the error, and what the disk is then. -/
def openD (m : DM) : Nat × DM :=
  if m.off then (7, m) else wipeF m.now ((m.now.length - ends m.now) / 32) (ends m.now) false m
theorem frs_mod (b : List UInt8) : ∀ (f p : Nat), p % 32 = 0 → ∀ x ∈ frs b f p, x.1 % 32 = 0 ∧ x.1 ≤ b.length
  | 0, _, _, x, hx => by simp [frs] at hx
  | f + 1, p, hp, x, hx => by
    rw [frs] at hx
    split at hx
    · rename_i ho
      have hm := ru_mod (opn (b.drop p)).2.1
      rcases List.mem_cons.1 hx with rfl | hx
      · simp only [okAt, Bool.and_eq_true, decide_eq_true_eq] at ho
        exact ⟨by simp only; omega, ho.1.2⟩
      · exact frs_mod b f _ (by omega) x hx
    · simp at hx
theorem ends_mod (b : List UInt8) : ends b % 32 = 0 ∧ ends b ≤ b.length := by
  unfold ends lastN
  cases h : (frs b (b.length / 32 + 1) 0).getLast? with
  | none => simp
  | some x => exact frs_mod b _ 0 rfl x (List.mem_of_getLast? h)
def OpenedPost (w : World) (c : Nat → Nat) (i D n : Nat) (m : DM) (e : Ending) (w' : World) : Prop :=
  ∃ c', IsD w' c' i D n (openD m).2 ∧ Step c i w c' w' ∧
    (if (openD m).1 = 0 then ∃ L v, e = .returned (.tuple #[.pointer (some ⟨L, 0, none⟩), v, .int .i64 0]) ∧ LogB w' L D (ends m.now) (texts m.now).length (texts m.now).length ∧ c' L = 9 ∧ w.heap.size ≤ L ∧ CoolR w' c' v (texts m.now)
     else e = .returned (.tuple #[.pointer none, .slice none 0 0, .int .i64 ((openD m).1 : Int)]))

set_option maxRecDepth 100000 in
set_option maxHeartbeats 1000000 in
theorem wOpen_any {w : World} {c : Nat → Nat} {i D n : Nat} {m : DM} (h : IsD w c i D n m) (hc : ∀ k, w.heap.size ≤ k → c k = 0) (hT : Tab w) :
    Calls Tryd.prog 32 #[.pointer (some ⟨D, 0, none⟩)] w (OpenedPost w c i D n m) := by
  have hi0 : i ≠ 0 := by obtain ⟨S, M, cap, N, vo, vk, s, hA, hW, hR, h1, h2, h3, h4, h5, h6⟩ := h; exact h6
  have H := hide h
  have HC := hide hc
  have HT := hide hT
  have HI := hide hi0
  obtain ⟨hok, -, hn0, hn⟩ := h.ok
  have HOK := hide hok
  clear h hc hT hi0 hok
  go_enter Tryd.func32, Tryd.ntmps32
  go_wp2_with fail
  refine (dSize_any H.out).mono ?_
  rintro e w1 ⟨rfl, hw⟩; subst w1
  go_wp2_with fail
  refine (dRead_any H.out 0 _ (by decide)).mono ?_
  cases ho : m.off with
  | true =>
    have e1 : Pd.read m 0 (32 * (n : Int)) = ([], 7) := by unfold Pd.read; rw [ho]; rfl
    have HE : Hid (openD m = (7, m)) := by unfold openD; rw [ho]; rfl
    rw [e1]
    rintro e w1 ⟨v1, rfl, hr1, -, hb1⟩
    have HB1 := hide hb1
    clear hr1 hb1 ho e1
    go_wp2_with fail
    go_ret3
    refine ⟨c, ?_, Step.keptS HC.out HB1.out, ?_⟩
    · rw [HE.out]; exact H.out.kept HB1.out (fun _ _ => rfl)
    · rw [HE.out, if_neg (by simp)]; rfl
  | false =>
    have hnl := HOK.out.now
    have e1 : Pd.read m 0 (32 * (n : Int)) = (m.now, 0) := by
      unfold Pd.read
      rw [ho, if_neg (by decide), if_neg (by omega)]
      have e : m.now.take (32 * n) = m.now := List.take_of_length_le (by omega)
      rw [show (32 * (n : Int)).toNat = 32 * n by omega, show (0 : Int).toNat = 0 from rfl, List.drop_zero, e]
    obtain ⟨b, hbn⟩ : ∃ b, b = m.now := ⟨_, rfl⟩
    have HE : Hid (openD m = wipeF b ((b.length - ends b) / 32) (ends b) false m) := by unfold openD; rw [ho, hbn]; rfl
    have HBN := hide hbn
    rw [e1, ← hbn]
    have hbl : b.length = 32 * n := by rw [hbn]; exact hnl
    obtain ⟨hem, hel⟩ := ends_mod b
    rintro e w1 ⟨v1, rfl, hr1, hnew1, hb1⟩
    have HR1 := hide hr1
    have HB1 := hide hb1
    have HN1 := hide hnew1
    clear hnl e1 hbn ho hr1 hb1 hnew1
    obtain ⟨E, hE⟩ : ∃ E, E = ends b := ⟨_, rfl⟩
    rw [← hE] at hem hel
    go_wp2_with fail
    refine (scan_any v1 b w1 (HT.out.kept HB1.out) HR1.out (by omega)).mono ?_
    rw [← hE]
    have HEE := hide hE
    clear hE
    rintro e w2 ⟨u2, rfl, ho2, hb2⟩
    have HO2 := hide ho2
    have HB2 : Hid (Below w.heap.size w w2) := HB1.out.trans (hb2.mono HB1.out.size)
    have HR2 : Hid (Rd w2 v1 b) := HR1.out.kept hb2
    have HD2 : Hid (IsD w2 c i D n m) := H.out.kept HB2.out (fun _ _ => rfl)
    have HC2 : Hid (∀ k, w2.heap.size ≤ k → c k = 0) := fun k hk => HC.out k (Nat.le_trans HB2.out.size hk)
    have HV2 : Hid (Cool c v1) := fun x hx => HC.out x (HN1.out x hx)
    have HU : Hid (CoolR w2 c u2 (texts b)) := HO2.out.cool (fun k hk => HC.out k (Nat.le_trans HB1.out.size hk))
    obtain ⟨ua, uc, hu2, -⟩ := HU.out
    subst hu2
    clear ho2 hb2
    have HS2 : Hid (Step c i w c w2) := Step.keptS HC.out HB2.out
    go_wp2_with fail
    refine (wipe_any HD2.out HC2.out v1 b HR2.out HV2.out E ((b.length - E) / 32) (by omega) (by omega)).mono ?_
    have HE1 : Hid (openD m = wipeF b ((b.length - E) / 32) E false m) := by show openD m = _; rw [HE.out, ← HEE.out]
    rintro e w3 ⟨rfl, c3, hd3, hs3⟩
    generalize wipeF b ((b.length - E) / 32) E false m = z at HE1 hd3 hs3 ⊢
    obtain ⟨er, m3⟩ := z
    have HD3 : Hid (IsD w3 c3 i D n m3) := hd3
    have HS3 : Hid (Step c i w c3 w3) := HS2.out.thenS hs3
    have HU3 : Hid (CoolR w3 c3 (.slice ua (texts b).length uc) (texts b)) := HU.out.step hs3 HI.out
    clear hd3 hs3
    by_cases he : er = 0
    · subst he
      go_wp2_with fail
      go_ret3
      have ba : Below w3.heap.size w3 (w3.alloc (.cells #[.pointer (some ⟨D, 0, none⟩), .int .i64 (E : Int), .int .i64 ((texts b).length : Int), .int .i64 ((texts b).length : Int)] 61)) := (Below.refl _ _).alloc (Nat.le_refl _) _
      have hsz := HS3.out.size
      have he : ∀ k, k < w3.heap.size → (fun k => if k = w3.heap.size then 9 else c3 k) k = c3 k := fun k hk => if_neg (by omega)
      refine ⟨fun k => if k = w3.heap.size then 9 else c3 k, ?_, ⟨HS3.out.chg.trans (Chg.of_below ba), fun k hk => (he k (by omega)).trans (HS3.out.ext k hk), fun k hk => ?_⟩, ?_⟩
      · rw [HE1.out]; exact HD3.out.kept ba he
      · have : w3.heap.size < (w3.alloc (.cells #[.pointer (some ⟨D, 0, none⟩), .int .i64 (E : Int), .int .i64 ((texts b).length : Int), .int .i64 ((texts b).length : Int)] 61)).heap.size := by simp
        show (if k = w3.heap.size then 9 else c3 k) = 0
        rw [if_neg (by omega)]
        exact HS3.out.norm k (by omega)
      · rw [HE1.out, if_pos rfl, ← HBN.out]
        refine ⟨w3.heap.size, .slice ua (texts b).length uc, rfl, ?_, if_pos rfl, hsz, HU3.out.chg (Chg.of_below (F := fun _ => False) ba) (fun _ _ _ => id) he⟩
        rw [← HEE.out]
        exact Blk.new w3 61 [.pointer (some ⟨D, 0, none⟩), .int .i64 (E : Int), .int .i64 ((texts b).length : Int), .int .i64 ((texts b).length : Int)]
    · have he' : ¬ (er : Int) = 0 := by omega
      go_wp2_with fail
      go_ret3
      refine ⟨c3, ?_, HS3.out, ?_⟩
      · rw [HE1.out]; exact HD3.out
      · rw [HE1.out, if_neg he]; rfl
#print axioms wOpen_any
end Go.Proofs.YtgdhjgfoalianaaDoor

/-
  The methods of a log: what the calls do.
-/
namespace Go.Proofs.YtgdhjgfoalianaaDoor
open Go.RowKit
open Pd (DM)

section
variable {w : World} {L D E C Y : Nat}
set_option maxRecDepth 100000 in
theorem wMade_any (h : LogB w L D E C Y) : Calls Tryd.prog 36 #[.pointer (some ⟨L, 0, none⟩)] w fun e w' => e = .returned (.bool true) ∧ w' = w := by
  have c0 := Blk.cell h (j := 0) rfl
  clear h
  go_enter Tryd.func36, Tryd.ntmps36
  go_wp2
  go_ret
  exact ⟨rfl, rfl⟩
set_option maxRecDepth 100000 in
theorem wEnd_any (h : LogB w L D E C Y) : Calls Tryd.prog 26 #[.pointer (some ⟨L, 0, none⟩)] w fun e w' => e = .returned (.int .i64 (E : Int)) ∧ w' = w := by
  have c1 := Blk.cell h (j := 1) rfl
  have H := hide h
  clear h
  go_enter Tryd.func26, Tryd.ntmps26
  go_wp2_with fail
  refine (wMade_any H.out).mono ?_
  rintro e w1 ⟨rfl, hw⟩; subst w1
  go_wp2_with fail
  go_ret
  exact ⟨rfl, rfl⟩
set_option maxRecDepth 100000 in
theorem wCount_any (h : LogB w L D E C Y) : Calls Tryd.prog 27 #[.pointer (some ⟨L, 0, none⟩)] w fun e w' => e = .returned (.int .i64 (C : Int)) ∧ w' = w := by
  have c1 := Blk.cell h (j := 2) rfl
  have H := hide h
  clear h
  go_enter Tryd.func27, Tryd.ntmps27
  go_wp2_with fail
  refine (wMade_any H.out).mono ?_
  rintro e w1 ⟨rfl, hw⟩; subst w1
  go_wp2_with fail
  go_ret
  exact ⟨rfl, rfl⟩
set_option maxRecDepth 100000 in
theorem wSynced_any (h : LogB w L D E C Y) : Calls Tryd.prog 28 #[.pointer (some ⟨L, 0, none⟩)] w fun e w' => e = .returned (.int .i64 (Y : Int)) ∧ w' = w := by
  have c1 := Blk.cell h (j := 3) rfl
  have H := hide h
  clear h
  go_enter Tryd.func28, Tryd.ntmps28
  go_wp2_with fail
  refine (wMade_any H.out).mono ?_
  rintro e w1 ⟨rfl, hw⟩; subst w1
  go_wp2_with fail
  go_ret
  exact ⟨rfl, rfl⟩
end

/-- What an act on a disk of colour i and on the log in block L leaves. -/
structure StepL (c : Nat → Nat) (i L : Nat) (w : World) (c' : Nat → Nat) (w' : World) : Prop where
  chg : Chg (fun k => c k = i ∨ k = L) w w'
  ext : ∀ k, k < w.heap.size → c' k = c k
  norm : ∀ k, w'.heap.size ≤ k → c' k = 0
theorem Step.log {c c' : Nat → Nat} {i : Nat} {w w' : World} (h : Step c i w c' w') (L : Nat) : StepL c i L w c' w' := ⟨h.chg.mono (fun _ _ h => .inl h), h.ext, h.norm⟩
theorem LogB.step {w w' : World} {L D E C Y i : Nat} {c c' : Nat → Nat} (h : LogB w L D E C Y) (hs : Step c i w c' w') (hL : c L ≠ i) : LogB w' L D E C Y := Blk.chg h hs.chg hL
theorem LogB.kept {w w' : World} {L D E C Y : Nat} (h : LogB w L D E C Y) (hb : Below w.heap.size w w') : LogB w' L D E C Y := Blk.kept h hb
theorem LogB.lt {w : World} {L D E C Y : Nat} (h : LogB w L D E C Y) : L < w.heap.size := Blk.lt h

/-- What Append does to a disk, plain. -/
def appD (m : DM) (E : Nat) (l : List UInt8) : Nat × DM := if 8192 < l.length then (12, m) else Pd.write m (E : Int) (pad l)

/-- A store into the log's block. -/
theorem IsD.logged {w : World} {c : Nat → Nat} {i D n L : Nat} {m : DM} (h : IsD w c i D n m) (hL : c L = 9) (hi : i ≠ 9) (j : Nat) (v : Value) : IsD (w.setCell ⟨L, j, none⟩ v) c i D n m :=
  h.chg (F := fun k => k = L) (Chg.setCell (F := fun k => k = L) w rfl j v) (fun k _ hk e => by subst e; omega) (fun _ _ => rfl)

set_option maxRecDepth 100000 in
set_option maxHeartbeats 1000000 in
theorem wSync_any {w : World} {c : Nat → Nat} {i D n L E C Y : Nat} {m : DM} (h : IsD w c i D n m) (hc : ∀ k, w.heap.size ≤ k → c k = 0) (hL : LogB w L D E C Y) (hL9 : c L = 9) (hi9 : i ≠ 9) :
    Calls Tryd.prog 16 #[.pointer (some ⟨L, 0, none⟩)] w fun e w' => e = .returned (.int .i64 ((Pd.sync m).1 : Int)) ∧ ∃ c', IsD w' c' i D n (Pd.sync m).2 ∧ StepL c i L w c' w' ∧ LogB w' L D E C (if (Pd.sync m).1 = 0 then C else Y) := by
  have H := hide (dSync_any h hc)
  have HL := hide hL
  have HL9 := hide hL9
  have HI9 := hide hi9
  have c0 := Blk.cell hL (j := 0) rfl
  clear h hc hL hL9 hi9
  generalize Pd.sync m = z at H ⊢
  obtain ⟨er, m1⟩ := z
  go_enter Tryd.func16, Tryd.ntmps16
  go_wp2_with fail
  refine (wMade_any HL.out).mono ?_
  rintro e w1 ⟨rfl, hw⟩; subst w1
  go_wp2_with fail
  refine H.out.mono ?_
  rintro e w1 ⟨rfl, c1, hd1, hs1⟩
  have HD1 : Hid (IsD w1 c1 i D n m1) := hd1
  have HS1 := hide hs1
  have HL1 : Hid (LogB w1 L D E C Y) := HL.out.step hs1 (by have := HL9.out; have := HI9.out; omega)
  have H91 : Hid (c1 L = 9) := (hs1.ext L HL.out.lt).trans HL9.out
  have c2 := Blk.cell HL1.out (j := 2) rfl
  have c3 := Blk.cell HL1.out (j := 3) rfl
  have f3 := Blk.frozen HL1.out 3
  clear hd1 hs1 c0
  by_cases he : er = 0
  · subst he
    go_wp2_with fail
    go_ret
    exact ⟨rfl, c1, HD1.out.logged H91.out HI9.out 3 _, ⟨(HS1.out.log L).chg.trans (Chg.setCell _ (.inr rfl) _ _), HS1.out.ext, fun k hk => HS1.out.norm k (by simpa using hk)⟩, Blk.set HL1.out 3 _⟩
  · have he' : ¬ (er : Int) = 0 := by omega
    go_wp2_with fail
    go_ret
    exact ⟨rfl, c1, HD1.out, HS1.out.log L, HL1.out⟩

set_option maxRecDepth 100000 in
set_option maxHeartbeats 1000000 in
theorem wAppend_any {w : World} {c : Nat → Nat} {i D n L E C Y : Nat} {m : DM} (h : IsD w c i D n m) (hc : ∀ k, w.heap.size ≤ k → c k = 0) (hT : Tab w) (hL : LogB w L D E C Y) (hL9 : c L = 9) (hi9 : i ≠ 9)
    (v : Value) (l : List UInt8) (hr : Rd w v l) (hE : E ≤ 1000000) (hC : C ≤ 1000000) :
    Calls Tryd.prog 14 #[.pointer (some ⟨L, 0, none⟩), v] w fun e w' => e = .returned (.int .i64 ((appD m E l).1 : Int)) ∧ ∃ c', IsD w' c' i D n (appD m E l).2 ∧ StepL c i L w c' w' ∧
      LogB w' L D (if (appD m E l).1 = 0 then E + (pad l).length else E) (if (appD m E l).1 = 0 then C + 1 else C) Y := by
  obtain ⟨a, cap, hv⟩ := hr.slice
  subst hv
  have H := hide h
  have HN := hide hc
  have HT := hide hT
  have HL := hide hL
  have HL9 := hide hL9
  have HI9 := hide hi9
  have HR := hide hr
  clear h hc hT hL hL9 hi9 hr
  by_cases hl : 8192 < l.length
  · have q1 : (8192 : Int) < (l.length : Int) := by omega
    have HA : Hid (appD m E l = (12, m)) := if_pos hl
    rw [HA.out]
    clear hl
    go_enter Tryd.func14, Tryd.ntmps14
    go_wp2_with fail
    refine (wMade_any HL.out).mono ?_
    rintro e w1 ⟨rfl, hw⟩; subst w1
    go_wp2_with fail
    go_ret
    exact ⟨rfl, c, H.out, ⟨Chg.refl _ _, fun _ _ => rfl, HN.out⟩, HL.out⟩
  · have q1 : ¬ (8192 : Int) < (l.length : Int) := by omega
    have HA : Hid (appD m E l = Pd.write m (E : Int) (pad l)) := if_neg hl
    rw [HA.out]
    have hl8 : l.length ≤ 8192 := by omega
    have hP : (pad l).length ≤ 8400 := by rw [pad_length]; have := ru_lt (framed l).length; have := framed_length l; have := enc_length l.length; omega
    clear hl
    obtain ⟨P, hPP⟩ : ∃ P, P = pad l := ⟨_, rfl⟩
    rw [← hPP] at hP ⊢
    have HP := hide hPP
    clear hPP
    obtain ⟨er, m2, hz⟩ : ∃ er m2, Pd.write m (E : Int) P = (er, m2) := ⟨_, _, rfl⟩
    rw [hz]
    have HZ := hide hz
    clear hz
    go_enter Tryd.func14, Tryd.ntmps14
    go_wp2_with fail
    refine (wMade_any HL.out).mono ?_
    rintro e w1 ⟨rfl, hw⟩; subst w1
    go_wp2_with fail
    refine (filled_any _ l _ HT.out HR.out hl8).mono ?_
    rw [← HP.out]
    rintro e w1 ⟨v1, rfl, ho1, hb1⟩
    obtain ⟨a1, cap1, hv1⟩ := ho1.form
    subst hv1
    have HO1 := hide ho1
    have HB1 := hide hb1
    have HL1 : Hid (LogB w1 L D E C Y) := HL.out.kept hb1
    have HD1 : Hid (IsD w1 c i D n m) := H.out.kept hb1 (fun _ _ => rfl)
    clear ho1 hb1
    have HD2 : Hid (IsD w1.drew c i D n m) := HD1.out.kept ⟨rfl, rfl, rfl, Nat.le_refl _, fun _ _ => rfl⟩ (fun _ _ => rfl)
    have HN2 : Hid (∀ k, w1.drew.heap.size ≤ k → c k = 0) := fun k hk => HN.out k (Nat.le_trans HB1.out.size hk)
    have HR2 : Hid (Rd w1.drew (.slice a1 P.length cap1) P) := HO1.out.rd.kept ⟨rfl, rfl, rfl, Nat.le_refl _, fun _ _ => rfl⟩
    have HV2 : Hid (Cool c (.slice a1 P.length cap1)) := fun x hx => HN.out x (HO1.out.inB hx)
    have hw := dWrite_any HD2.out HN2.out (E : Int) (wf_nat (by omega)) _ P HR2.out HV2.out
    rw [HZ.out] at hw
    have HW := hide hw
    clear hw
    have c0 := (Blk.drew HL1.out).cell (j := 0) rfl
    have c1 := (Blk.drew HL1.out).cell (j := 1) rfl
    go_upto_region 6 with fail
    refine wp_region_still_tail 9 Tryd.mixed (by kernel_rfl) ?_
    simp only [List.take_succ_cons, List.take_zero, List.drop_succ_cons, List.drop_zero]
    iterate 9 still_step
    refine wpStill_nil ?_
    clear c0 c1
    go_wp2_with fail
    refine HW.out.mono ?_
    rintro e w3 ⟨rfl, c3, hd3, hs3⟩
    have HD3 : Hid (IsD w3 c3 i D n m2) := hd3
    have HS3 : Hid (Step c i w c3 w3) := (Step.keptS (w' := w1.drew) HN.out (HB1.out.trans ⟨rfl, rfl, rfl, Nat.le_refl _, fun _ _ => rfl⟩)).thenS hs3
    have H93 : Hid (c3 L = 9) := (HS3.out.ext L HL.out.lt).trans HL9.out
    have HL3 : Hid (LogB w3 L D E C Y) := LogB.step (w := w1.drew) (Blk.drew HL1.out) hs3 (by have := HL9.out; have := HI9.out; omega)
    have c0 := Blk.cell HL3.out (j := 1) rfl
    have f0 := Blk.frozen HL3.out 1
    have HL4 := hide (Blk.set HL3.out 1 (.int .i64 ((E : Int) + (P.length : Int))))
    have c1 := HL4.out.cell (j := 2) rfl
    have f1 := HL4.out.frozen 2
    clear hd3 hs3
    by_cases he : er = 0
    · subst he
      go_wp2_with fail
      go_ret
      refine ⟨rfl, c3, (HD3.out.logged H93.out HI9.out 1 _).logged H93.out HI9.out 2 _, ⟨?_, HS3.out.ext, fun k hk => HS3.out.norm k (by simpa using hk)⟩, ?_⟩
      · exact ((HS3.out.log L).chg.trans (Chg.setCell _ (.inr rfl) _ _)).trans (Chg.setCell _ (.inr rfl) _ _)
      · have := Blk.set HL4.out 2 (.int .i64 ((C : Int) + 1))
        simpa [LogB] using this
    · have he' : ¬ (er : Int) = 0 := by omega
      go_wp2_with fail
      go_ret
      exact ⟨rfl, c3, HD3.out, HS3.out.log L, HL3.out⟩
#print axioms wAppend_any
end Go.Proofs.YtgdhjgfoalianaaDoor

/-
  Logs, plain: what is scanned of frames side by side, and what Open does to a disk that has nothing behind them.
-/
namespace Go.Proofs.YtgdhjgfoalianaaDoor
open Pd (DM)

theorem nought_cons (x : UInt8) (l : List UInt8) : nought (x :: l) = (x == 0 && nought l) := rfl
theorem crc_nought : be4 (crc [0]) ≠ [0, 0, 0, 0] := by decide +kernel
/-- Noughts are no frame. -/
theorem opn_nought {l : List UInt8} (h : nought (l.take 32) = true) : (opn l).2.2 = false := by
  match l, h with
  | [], _ => rfl
  | [x], h =>
    simp [nought] at h; subst h
    rfl
  | [x, y], h =>
    simp [nought] at h; obtain ⟨rfl, rfl⟩ := h
    rfl
  | [x, y, z], h =>
    simp [nought] at h; obtain ⟨rfl, rfl, rfl⟩ := h
    rfl
  | [x, y, z, t], h =>
    simp [nought] at h; obtain ⟨rfl, rfl, rfl, rfl⟩ := h
    rfl
  | x :: y :: z :: t :: u :: r, h =>
    simp only [List.take_succ_cons, nought_cons, Bool.and_eq_true, beq_iff_eq] at h
    obtain ⟨rfl, rfl, rfl, rfl, rfl, -⟩ := h
    have hg : gn (0 :: 0 :: 0 :: 0 :: 0 :: r) = (0, 1, true) := rfl
    rw [opn_no hg (fun hc => crc_nought hc.2.2.2)]
theorem okAt_nought {b : List UInt8} {p : Nat} (h : nought ((b.drop p).take 32) = true) : okAt b p = false := by
  unfold okAt; rw [opn_nought h]; rfl

/-- Frames side by side. -/
def pads (ts : List (List UInt8)) : List UInt8 := (ts.map pad).flatten
theorem pads_cons (t : List UInt8) (ts : List (List UInt8)) : pads (t :: ts) = pad t ++ pads ts := rfl
theorem pads_append (a b : List (List UInt8)) : pads (a ++ b) = pads a ++ pads b := by simp [pads]
theorem pads_one (t : List UInt8) : pads [t] = pad t := by simp [pads]
def places : Nat → List (List UInt8) → List (Nat × List UInt8)
  | _, [] => []
  | p, t :: ts => (p + (pad t).length, t) :: places (p + (pad t).length) ts
theorem places_texts : ∀ (ts : List (List UInt8)) (p : Nat), (places p ts).map (·.2) = ts
  | [], _ => rfl
  | t :: ts, p => by rw [places, List.map_cons, places_texts ts]
theorem lastN_places : ∀ (ts : List (List UInt8)) (p : Nat), ts ≠ [] → lastN (places p ts) = p + (pads ts).length
  | [t], p, _ => by simp [places, lastN, pads]
  | t :: u :: ts, p, _ => by
    have := lastN_places (u :: ts) (p + (pad t).length) (by simp)
    rw [places, pads_cons, List.length_append, ← Nat.add_assoc, ← this, places]
    simp [lastN]
theorem pad_pos (t : List UInt8) : 32 ≤ (pad t).length := by rw [pad_length]; exact ru_pos (by rw [framed_length]; omega)
theorem pad_mod (t : List UInt8) : (pad t).length % 32 = 0 := by rw [pad_length]; exact ru_mod _
theorem pads_mod : ∀ ts : List (List UInt8), (pads ts).length % 32 = 0
  | [] => rfl
  | t :: ts => by have := pad_mod t; have := pads_mod ts; rw [pads_cons, List.length_append]; omega
theorem pads_ge : ∀ ts : List (List UInt8), 32 * ts.length ≤ (pads ts).length
  | [] => by simp
  | t :: ts => by have := pad_pos t; have := pads_ge ts; rw [pads_cons, List.length_append, List.length_cons]; omega
theorem nought_replicate (n : Nat) : nought (List.replicate n 0) = true := by simp [nought]
theorem okAt_pad (pre t X : List UInt8) (ht : t.length ≤ 8192) : okAt (pre ++ (pad t ++ X)) pre.length = true ∧ opn ((pre ++ (pad t ++ X)).drop pre.length) = (t, (framed t).length, true) := by
  have h1 : opn ((pre ++ (pad t ++ X)).drop pre.length) = (t, (framed t).length, true) := by
    rw [List.drop_left, pad, List.append_assoc]
    exact opn_framed t _ ht
  refine ⟨?_, h1⟩
  unfold okAt
  rw [h1]
  have h2 : (pre ++ (pad t ++ X)).drop (pre.length + (framed t).length) = List.replicate (ru (framed t).length - (framed t).length) 0 ++ X := by
    rw [← List.drop_drop, List.drop_left, pad, List.append_assoc, List.drop_left]
  simp only [h2]
  rw [List.take_left' (by simp), nought_replicate]
  have := pad_length t
  simp
  omega
theorem frs_pads (b rest : List UInt8) (hr : nought (rest.take 32) = true) : ∀ (ts : List (List UInt8)) (pre : List UInt8) (f : Nat), b = pre ++ (pads ts ++ rest) → ts.length < f → (∀ t ∈ ts, t.length ≤ 8192) → frs b f pre.length = places pre.length ts
  | [], pre, f, hb, _, _ => by
    rw [frs_stop (okAt_nought (by rw [hb, List.drop_left]; exact hr))]
    rfl
  | t :: ts, pre, f + 1, hb, hf, hl => by
    have hb' : b = pre ++ (pad t ++ (pads ts ++ rest)) := by rw [hb, pads_cons, List.append_assoc]
    obtain ⟨h1, h2⟩ := okAt_pad pre t (pads ts ++ rest) (hl t (by simp))
    rw [← hb'] at h1 h2
    rw [frs_go h1, h2, places]
    simp only
    rw [← pad_length t]
    have := frs_pads b rest hr ts (pre ++ pad t) f (by rw [hb', List.append_assoc]) (by simpa using hf) (fun x hx => hl x (by simp [hx]))
    rw [List.length_append] at this
    rw [this]
theorem scan_pads (ts : List (List UInt8)) (rest : List UInt8) (hr : nought (rest.take 32) = true) (hl : ∀ t ∈ ts, t.length ≤ 8192) : texts (pads ts ++ rest) = ts ∧ ends (pads ts ++ rest) = (pads ts).length := by
  have h := frs_pads (pads ts ++ rest) rest hr ts [] ((pads ts ++ rest).length / 32 + 1) rfl (by have := pads_ge ts; rw [List.length_append]; omega) hl
  unfold texts ends
  rw [List.length_nil] at h
  rw [h]
  refine ⟨places_texts ts 0, ?_⟩
  by_cases he : ts = []
  · subst he; rfl
  · rw [lastN_places ts 0 he, Nat.zero_add]
/-- Where nothing stands nothing is wiped. -/
theorem wipeF_none (b : List UInt8) (m : DM) : ∀ (k p : Nat), (∀ j, j < k → nought ((b.drop (p + 32 * j)).take 32) = true) → wipeF b k p false m = (0, m)
  | 0, _, _ => rfl
  | k + 1, p, h => by
    rw [wipeF, if_pos (by have := h 0 (by omega); exact this)]
    exact wipeF_none b m k (p + 32) (fun j hj => by have := h (j + 1) (by omega); rw [show p + 32 + 32 * j = p + 32 * (j + 1) by omega]; exact this)
theorem nought_drop {l : List UInt8} (h : nought l = true) (n : Nat) : nought (l.drop n) = true := by
  unfold nought at *
  rw [List.all_eq_true] at *
  exact fun x hx => h x (List.mem_of_mem_drop hx)
theorem nought_take {l : List UInt8} (h : nought l = true) (n : Nat) : nought (l.take n) = true := by
  unfold nought at *
  rw [List.all_eq_true] at *
  exact fun x hx => h x (List.mem_of_mem_take hx)
/-- A disk with a log, and nothing behind. -/
theorem openD_pads {m : DM} {ts : List (List UInt8)} {rest : List UInt8} (ho : m.off = false) (hm : m.now = pads ts ++ rest) (hr : nought rest = true) (hl : ∀ t ∈ ts, t.length ≤ 8192) :
    openD m = (0, m) ∧ texts m.now = ts ∧ ends m.now = (pads ts).length := by
  obtain ⟨h1, h2⟩ := scan_pads ts rest (nought_take hr 32) hl
  rw [← hm] at h1 h2
  refine ⟨?_, h1, h2⟩
  unfold openD
  rw [ho, if_neg (by simp)]
  refine wipeF_none _ _ _ _ (fun j _ => ?_)
  rw [h2, hm, ← List.drop_drop, List.drop_left]
  exact nought_take (nought_drop hr _) _
theorem openD_new (n : Nat) : openD (Pd.new n) = (0, Pd.new n) ∧ texts (Pd.new n).now = [] ∧ ends (Pd.new n).now = 0 :=
  openD_pads (ts := []) (rest := (Pd.new n).now) rfl rfl (nought_replicate _) (by simp)
#print axioms openD_new
end Go.Proofs.YtgdhjgfoalianaaDoor

/-
  One log on one disk that the law itself makes; indenturelaw06.lives: what the call does.
-/
namespace Go.Proofs.YtgdhjgfoalianaaDoor
open Go.RowKit
open Pd (DM)

/-- A disk that was made since w0, and a log on it. -/
structure Lw (w0 w : World) (D n L : Nat) (m : DM) (E C Y : Nat) (c : Nat → Nat) : Prop where
  one : OneC w0 w D n m c
  log : LogB w L D E C Y
  nine : c L = 9
section
variable {w0 w : World} {D n L E C Y : Nat} {m : DM} {c : Nat → Nat}
theorem OneC.logged {w' : World} {c' : Nat → Nat} {m' : DM} (h : OneC w0 w D n m c) (h9 : c L = 9) (hI : IsD w' c' 1 D n m') (hs : StepL c 1 L w c' w') : OneC w0 w' D n m' c' := by
  obtain ⟨h1, h2, h3, h4⟩ := h
  refine ⟨hI, hs.norm, fun k hk => (hs.ext k (Nat.lt_of_lt_of_le hk h4.size)).trans (h3 k hk), h4.trans (hs.chg.below h4.size (fun k hk hF => ?_))⟩
  have h0 := h3 k hk
  rcases hF with e | e
  · omega
  · subst e; omega
theorem Lw.kept {w' : World} (h : Lw w0 w D n L m E C Y c) (hb : Below w.heap.size w w') : Lw w0 w' D n L m E C Y c := ⟨h.one.kept hb, h.log.kept hb, h.nine⟩
theorem OneC.tab (h : OneC w0 w D n m c) (hT : Tab w0) : Tab w := hT.kept h.below
theorem OneC.opened (h : OneC w0 w D n m c) (hT : Tab w0) (he : (openD m).1 = 0) :
    Calls Tryd.prog 32 #[.pointer (some ⟨D, 0, none⟩)] w fun e w' => ∃ c' L v, e = .returned (.tuple #[.pointer (some ⟨L, 0, none⟩), v, .int .i64 0]) ∧ Lw w0 w' D n L (openD m).2 (ends m.now) (texts m.now).length (texts m.now).length c' ∧ Step c 1 w c' w' ∧ CoolR w' c' v (texts m.now) := by
  refine (wOpen_any h.1 h.2.1 (h.tab hT)).mono ?_
  rintro e w' ⟨c', hI, hs, hp⟩
  rw [if_pos he] at hp
  obtain ⟨L, v, rfl, hL, h9, -, hR⟩ := hp
  exact ⟨c', L, v, rfl, ⟨OneC.step hI hs h.2.2.1 h.2.2.2, hL, h9⟩, hs, hR⟩
theorem Lw.append (h : Lw w0 w D n L m E C Y c) (hT : Tab w0) (v : Value) (l : List UInt8) (hr : Rd w v l) (hE : E ≤ 1000000) (hC : C ≤ 1000000) :
    Calls Tryd.prog 14 #[.pointer (some ⟨L, 0, none⟩), v] w fun e w' => e = .returned (.int .i64 ((appD m E l).1 : Int)) ∧ ∃ c', Lw w0 w' D n L (appD m E l).2 (if (appD m E l).1 = 0 then E + (pad l).length else E) (if (appD m E l).1 = 0 then C + 1 else C) Y c' ∧ StepL c 1 L w c' w' := by
  refine (wAppend_any h.one.1 h.one.2.1 (h.one.tab hT) h.log h.nine (by decide) v l hr hE hC).mono ?_
  rintro e w' ⟨rfl, c', hI, hs, hL⟩
  exact ⟨rfl, c', ⟨h.one.logged h.nine hI hs, hL, (hs.ext L h.log.lt).trans h.nine⟩, hs⟩
theorem Lw.sync (h : Lw w0 w D n L m E C Y c) :
    Calls Tryd.prog 16 #[.pointer (some ⟨L, 0, none⟩)] w fun e w' => e = .returned (.int .i64 ((Pd.sync m).1 : Int)) ∧ ∃ c', Lw w0 w' D n L (Pd.sync m).2 E C (if (Pd.sync m).1 = 0 then C else Y) c' ∧ StepL c 1 L w c' w' := by
  refine (wSync_any h.one.1 h.one.2.1 h.log h.nine (by decide)).mono ?_
  rintro e w' ⟨rfl, c', hI, hs, hL⟩
  exact ⟨rfl, c', ⟨h.one.logged h.nine hI hs, hL, (hs.ext L h.log.lt).trans h.nine⟩, hs⟩
end

def ab : List UInt8 := [97, 98]
theorem v1 : (appD (Pd.new 4) 0 ab).1 = 0 := by decide +kernel
theorem v2 : Pd.read (appD (Pd.new 4) 0 ab).2 0 3 = ([2, 97, 98], 0) := by decide +kernel
theorem v3 : (pad ab).length = 32 := by decide +kernel

set_option maxHeartbeats 1000000 in
set_option maxRecDepth 100000 in
theorem lives_any (w : World) (hT : Tab w) : Calls Tryd.prog 10 #[] w fun e w' => e = .returned (.bool true) ∧ Below w.heap.size w w' := by
  have kc := fun (w : World) (C : Array Value) (n c : Nat) => Lib.run_convert_bytes_const (P := Tryd.prog) w 33 5 C n c Tryd.underlying33 Tryd.underlying5
  obtain ⟨e1, e2, e3⟩ := openD_new 4
  have HT := hide hT
  have E1 := hide e1
  have E2 := hide e2
  have E3 := hide e3
  clear hT e1 e2 e3
  go_enter Tryd.func10, Tryd.ntmps10
  go_wp2_with fail
  refine (OneC.new w 4 (by decide) (by decide)).mono ?_
  rintro e w1 ⟨D, rfl, c1, o1⟩
  have HO := hide (o1.opened HT.out (by rw [E1.out]))
  clear o1
  go_wp2_with fail
  refine HO.out.mono ?_
  rw [E1.out, E2.out, E3.out]
  rintro e w2 ⟨c2, L, v2, rfl, l2, -, r2⟩
  obtain ⟨va, vc, hv, -⟩ := r2
  subst hv
  have hb : Below w2.heap.size w2 (w2.alloc (.cells (By ab).toArray 5 (2, 3))) := (Below.refl _ _).alloc (Nat.le_refl _) _
  have HA := hide ((l2.kept hb).append HT.out _ ab (rd_new (fr := (2, 3)) (by decide)) (by omega) (by simp))
  clear HO l2 hb
  go_wp2_with fail
  refine HA.out.mono ?_
  rw [v1]
  rintro e w3 ⟨rfl, c3, l3, -⟩
  rw [v3] at l3
  have L3 := hide l3
  clear l3 HA
  go_wp2_with fail
  refine (L3.out.one.read 0 3 (by decide)).mono ?_
  rw [Go.Proofs.YtgdhjgfoalianaaDoor.v2]
  rintro e w4 ⟨u4, rfl, r4, o4, b4⟩
  have k4 := r4.conv (P := Tryd.prog) 33 9 Tryd.underlying33 Tryd.underlying5 Tryd.underlying9
  have L4 := hide (L3.out.kept b4)
  have HB := hide L4.out.one.below
  clear r4 o4 b4 L3
  go_wp2_with fail
  refine (wEnd_any L4.out.log).mono ?_
  rintro e w5 ⟨rfl, hw⟩; subst w5
  go_wp2_with fail
  refine (wCount_any L4.out.log).mono ?_
  rintro e w5 ⟨rfl, hw⟩; subst w5
  go_wp2_with fail
  go_ret
  exact ⟨rfl, HB.out⟩
#print axioms lives_any
end Go.Proofs.YtgdhjgfoalianaaDoor
