/-
  indenturelaw05.DiskSectors: the walk: the call returns true and makes new memory alone.
-/
import Derived.Test.YtnkcjhfdmnpckaaKeepsWalk
namespace Go.Proofs.Ytnkcjhfdmnpckaa
open Go.RowKit
open Pd (DM spl)
theorem wp_name {P : Program} {c : Code} {Q : Exit → Act → World → Prop} {a : Act} {w : World} (h : ∀ a0, a0 = a → c.wp P Q a0 w) : c.wp P Q a w := h a rfl
theorem write_safe {m : DM} (ha : m.armed = 0) (p : Int) (b : List UInt8) : (Pd.write m p b).2.safe = m.safe := by
  unfold Pd.write
  split
  · rfl
  split
  · rfl
  split
  · rfl
  split
  · rfl
  have : Pd.strike m = (false, m) := by unfold Pd.strike; rw [if_pos ha]
  rw [this]
theorem pair_of {p : Nat × DM} {k : Nat} (h : p.1 = k) : p = (k, p.2) := by
  cases p
  simp only at h
  rw [h]
theorem make_run {i0 : TypeInfo} (hi0 : Try.prog.info? 5 = some i0) (hz0 : i0.zero = some (.int .u8 0)) (hz1 : i0.size = 1) (hz2 : i0.bytes = 1) (M : Nat) (hM : M ≤ 1000000) (W : World) :
    (Instr.makeSlice 29 (.int .i64 (M : Int)) (.int .i64 (M : Int))).run Try.prog W = .ok (.slice (some ⟨W.heap.size, 0, none⟩) M M) (W.alloc (.cells (Array.replicate M (Value.int .u8 0)) 5)) := by
  have hrun := run_make (P := Try.prog) W 29 5 i0 (.int .u8 0) Try.underlying29 hi0 hz0 .i64 .i64 M M (by omega) (by omega) (by rw [hz2]; omega) (by omega)
  have e : madeCells (Value.int .u8 0).cells ((M : Int).toNat * i0.size) = Array.replicate M (Value.int .u8 0) := by
    apply Array.ext'
    rw [hz1]
    show (madeCells #[Value.int .u8 0] _).toList = _
    rw [toList_madeCells_one]
    simp
  rw [e] at hrun
  simpa only [Int.toNat_natCast] using hrun
theorem wrap_small {x : Int} (h0 : 0 ≤ x) (h1 : x < 4294967296) : IntKind.i64.wrap x = x := by
  simp [IntKind.wrap, IntKind.bits, IntKind.signed]
  omega
theorem cut_str (a b : List UInt8) (n : Nat) : (⟨(a.take n ++ b.drop n).toArray⟩ : ByteArray) = (⟨a.toArray⟩ : ByteArray).extract 0 n ++ (⟨b.toArray⟩ : ByteArray).extract n (⟨b.toArray⟩ : ByteArray).size := by
  apply ByteArray.ext
  rw [ByteArray.data_append, ByteArray.data_extract, ByteArray.data_extract]
  show _ = a.toArray.extract 0 n ++ b.toArray.extract n b.toArray.size
  apply Array.ext'
  simp
  rw [List.take_of_length_le (by simp)]
theorem nodup_le : ∀ {k : Nat} {l : List Nat}, l.Nodup → (∀ x ∈ l, x < k) → l.length ≤ k
  | 0, l, _, h => by cases l with
    | nil => simp
    | cons x r => exact absurd (h x (by simp)) (by omega)
  | k + 1, l, hn, h => by
    have h1 := nodup_le (k := k) (l := l.erase k) (hn.erase k) (fun x hx => by
      have a := h x (List.mem_of_mem_erase hx)
      have b : x ≠ k := fun e => by subst e; exact (hn.not_mem_erase hx)
      omega)
    have h2 : l.length ≤ (l.erase k).length + 1 := by
      by_cases hk : k ∈ l
      · rw [List.length_erase_of_mem hk]; omega
      · rw [List.erase_of_not_mem hk]; omega
    omega
/-- The disk of DiskSectors ahead of the crash. -/
structure Two (m : DM) (old now : List UInt8) : Prop where
  off : m.off = false
  safe : m.safe = old
  now : m.now = now
  ok : Pd.Ok 8 m
theorem two_acts {A B : List UInt8} (ha : A.length ≤ 256) (hb : B.length ≤ 256) : ∃ m1 m2 m3 Z, Z = List.replicate (32 * 8) (0 : UInt8) ∧ Pd.write (Pd.new 8) 0 A = (0, m1) ∧ Pd.sync m1 = (0, m2) ∧ Pd.write m2 0 B = (0, m3) ∧ Two m3 (spl Z 0 A) (spl (spl Z 0 A) 0 B) := by
  have h0 := plain_new 8
  have hf : ∀ X : List UInt8, X.length ≤ 256 → fitsB 8 0 X = true := fun X hX => by unfold fitsB; simp only [Bool.and_eq_true, decide_eq_true_eq]; omega
  obtain ⟨e1, p1, -⟩ := h0.write 0 A (hf A ha)
  obtain ⟨e2, p2, d2⟩ := p1.sync
  obtain ⟨e3, p3, -⟩ := p2.write 0 B (hf B hb)
  refine ⟨(Pd.write (Pd.new 8) 0 A).2, _, _, _, rfl, pair_of e1, pair_of e2, pair_of e3, p3.off, ?_, p3.now, p3.ok⟩
  rw [write_safe p2.armed]
  have : (Pd.sync (Pd.write (Pd.new 8) 0 A).2).2.safe = (Pd.sync (Pd.write (Pd.new 8) 0 A).2).2.now := List.ext_getElem? fun i => (p2.ok.alike i (by rw [d2]; simp)).symm
  rw [this]
  exact p2.now
/-- Sector s of bytes. -/
def sct (l : List UInt8) (s : Nat) : List UInt8 := (l.drop (32 * s)).take 32
theorem sct_get {l : List UInt8} {s j : Nat} : (sct l s)[j]? = if j < 32 then l[32 * s + j]? else none := by
  unfold sct
  by_cases h : j < 32
  · rw [if_pos h, List.getElem?_take_of_lt h, List.getElem?_drop]
  · rw [if_neg h, List.getElem?_take_eq_none (by omega)]
theorem sct_length {l : List UInt8} {s : Nat} (hl : l.length = 256) (hs : s < 8) : (sct l s).length = 32 := by unfold sct; simp; omega
theorem sector {m : DM} {old now x : List UInt8} {keep : List Int} {N : Int} (h : Two m old now) (hx : x = (Pd.crash m keep N).now) (hol : old.length = 256) (hnl : now.length = 256) {s : Nat} (hs : s < 8) :
    ((s : Int) ∈ keep → sct x s = sct now s) ∧ ((s : Int) ∉ keep → sct x s = sct old s ∨ sct x s = sct now s ∨ (Pd.cut1 keep m.dirty = some s ∧ 1 ≤ N ∧ N ≤ 31 ∧ sct x s = (sct now s).take N.toNat ++ (sct old s).drop N.toNat)) := by
  refine ⟨fun hk => ?_, fun hk => ?_⟩
  · apply List.ext_getElem?
    intro j
    rw [sct_get, sct_get]
    by_cases hj : j < 32
    · rw [if_pos hj, if_pos hj, hx, Pd.crash_kept h.ok N (by rw [show (32 * s + j) / 32 = s by omega]; exact hk), h.now]
    · rw [if_neg hj, if_neg hj]
  · have key : ∀ j, j < 32 → x[32 * s + j]? = if Pd.cut1 keep m.dirty = some s ∧ j < Pd.clip N then now[32 * s + j]? else old[32 * s + j]? := fun j hj => by
      rw [hx, Pd.crash_cut h.ok N (by rw [show (32 * s + j) / 32 = s by omega]; exact hk), show (32 * s + j) / 32 = s by omega, show (32 * s + j) % 32 = j by omega, h.now, h.safe]
    by_cases hc : Pd.cut1 keep m.dirty = some s
    · by_cases h1 : Pd.clip N = 0
      · left
        apply List.ext_getElem?
        intro j
        rw [sct_get, sct_get]
        by_cases hj : j < 32
        · rw [if_pos hj, if_pos hj, key j hj, if_neg (by omega)]
        · rw [if_neg hj, if_neg hj]
      · by_cases h2 : Pd.clip N = 32
        · right; left
          apply List.ext_getElem?
          intro j
          rw [sct_get, sct_get]
          by_cases hj : j < 32
          · rw [if_pos hj, if_pos hj, key j hj, if_pos ⟨hc, by omega⟩]
          · rw [if_neg hj, if_neg hj]
        · right; right
          have h3 : 1 ≤ N ∧ N ≤ 31 ∧ Pd.clip N = N.toNat := by
            unfold Pd.clip at h1 h2 ⊢
            split at h1
            · omega
            · split at h1
              · rename_i h4 h5
                rw [if_neg h4, if_pos h5] at h2
                omega
              · rename_i h4 h5
                rw [if_neg h4, if_neg h5] at h2 ⊢
                omega
          refine ⟨hc, h3.1, h3.2.1, ?_⟩
          have hl1 := sct_length (s := s) hnl hs
          have hl2 := sct_length (s := s) hol hs
          apply List.ext_getElem?
          intro j
          rw [sct_get]
          by_cases hj : j < 32
          · rw [if_pos hj, key j hj, h3.2.2]
            by_cases hjn : j < N.toNat
            · rw [if_pos ⟨hc, hjn⟩, List.getElem?_append_left (by rw [List.length_take]; omega), List.getElem?_take_of_lt hjn, sct_get, if_pos hj]
            · rw [if_neg (by omega), List.getElem?_append_right (by rw [List.length_take]; omega), List.getElem?_drop, List.length_take, sct_get, show N.toNat + (j - min N.toNat (sct now s).length) = j by omega, if_pos hj]
          · rw [if_neg hj, List.getElem?_eq_none]
            simp
            omega
    · left
      apply List.ext_getElem?
      intro j
      rw [sct_get, sct_get]
      by_cases hj : j < 32
      · rw [if_pos hj, if_pos hj, key j hj, if_neg (fun h => hc h.1)]
      · rw [if_neg hj, if_neg hj]
theorem slice_part (g off n cap lo hi : Nat) (h1 : lo ≤ hi) (h2 : hi ≤ cap) (h4 : lo < cap) (W : World) :
    (Instr.sliceAt 29 (.slice (some ⟨g, off, none⟩) n cap) (some (.int .i64 (lo : Int))) (some (.int .i64 (hi : Int))) none).run Try.prog W = .ok (.slice (some ⟨g, off + lo, none⟩) (hi - lo) (cap - lo)) W := by
  have e1 : (lo : Int) ≤ (hi : Int) := by omega
  have e2 : (hi : Int) ≤ (cap : Int) := by omega
  have hsz := Try.size5
  cases hq : Try.prog.info? 5 with
  | none => simp [hq] at hsz
  | some i =>
    have hi1 : i.size = 1 := by simpa [hq] using hsz
    simp [Instr.sliceAt, Instr.slice, run_underlying Try.underlying29, Instr.sliceBounds, run_sliceBound, e1, e2, sizeOf, typeInfo, hq, hi1, Addr.add_lit]
    omega
theorem slice_sub (g off n cap s : Nat) (h1 : 32 * s + 32 ≤ cap) (W : World) :
    (Instr.sliceAt 29 (.slice (some ⟨g, off, none⟩) n cap) (some (.int .i64 (32 * (s : Int)))) (some (.int .i64 (32 * (s : Int) + 32))) none).run Try.prog W = .ok (.slice (some ⟨g, off + 32 * s, none⟩) 32 (cap - 32 * s)) W := by
  have h := slice_part g off n cap (32 * s) (32 * s + 32) (by omega) h1 (by omega) W
  rw [show ((32 * s : Nat) : Int) = 32 * (s : Int) by omega, show ((32 * s + 32 : Nat) : Int) = 32 * (s : Int) + 32 by omega, show 32 * s + 32 - 32 * s = 32 by omega] at h
  exact h
theorem rd_blk {w : World} {G M : Nat} {T : TypeId} {l : List UInt8} (h : Blk w G T (By l)) (hl : l.length = M) (hM : M ≤ 1000000) : Rd w (.slice (some ⟨G, 0, none⟩) M M) l := by
  refine ⟨_, M, by rw [hl], by rw [hl]; exact Nat.le_refl _, by simp only [maxLen]; omega, fun h => by simp at h, fun _ => ⟨G, 0, rfl, h.lt, fun j u hj => ?_⟩⟩
  rw [Nat.zero_add]
  exact h.cell hj
theorem Rd.sector {w : World} {g off n cap s : Nat} {l : List UInt8} (h : Rd w (.slice (some ⟨g, off, none⟩) n cap) l) (hs : 32 * s + 32 ≤ n) : Rd w (.slice (some ⟨g, off + 32 * s, none⟩) 32 (cap - 32 * s)) (sct l s) := (h.drop (32 * s) (by omega) (off + 32 * s) (.inl rfl)).take 32 (by omega)
set_option maxHeartbeats 4000000 in
set_option maxRecDepth 100000 in
theorem diskSectors_any {w : World} {va vb u : Value} {A B : List UInt8} {q : ActP} (hA : Rd w va A) (hB : Rd w vb B) (h' : ∃ vb vk, u = .agg (AC q vb vk).toArray ∧ IsA w q vb vk) : Calls Try.prog 5 #[va, vb, u] w fun e w' => e = .returned (.bool true) ∧ Below w.heap.size w w' := by
  have HA : Hid (Rd w va A) := hA
  have HB : Hid (Rd w vb B) := hB
  obtain ⟨xa, ca, hva, ha1, ha2, -⟩ := hA
  obtain ⟨xb, cb, hvb, hb1, hb2, -⟩ := hB
  obtain ⟨vb', vk, hu, hQ⟩ := h'
  obtain ⟨aq, cq, hvq, -⟩ := hQ.b
  obtain ⟨ak, ck, hvk, -⟩ := hQ.k
  subst hva hvb hu hvq hvk
  have HQ : Hid (IsA w q (.slice aq q.B.length cq) (.slice ak q.keep.length ck)) := hQ
  obtain ⟨na, HNA⟩ : ∃ n, Hid (A.length = n) := ⟨_, rfl⟩
  obtain ⟨nb, HNB⟩ : ∃ n, Hid (B.length = n) := ⟨_, rfl⟩
  rw [HNA.out] at ha1 HA ⊢
  rw [HNB.out] at hb1 HB ⊢
  have hz := Zact
  have hna : na ≤ 9223372036854775807 := by unfold maxLen at ha2; omega
  have hnb : nb ≤ 9223372036854775807 := by unfold maxLen at hb2; omega
  obtain ⟨CQ, HCQ⟩ : ∃ CA, Hid (AC q (.slice aq q.B.length cq) (.slice ak q.keep.length ck) = CA) := ⟨_, rfl⟩
  have CQ1 : Hid (∀ u ∈ AC q (.slice aq q.B.length cq) (.slice ak q.keep.length ck), u.oneCell' = true) := AC_one hQ
  rw [HCQ.out] at CQ1 ⊢
  have hql : CQ.length = 5 := by rw [← HCQ.out]; rfl
  obtain ⟨i0, hi0, hz0, hz1, hz2⟩ := info_parts Try.info5
  clear hQ
  go_enter Try.func5, Try.ntmps5
  go_upto_region 1 with (first
    | (refine wpList_store_new rfl 32 _ _ rfl w _ _ _ rfl rfl rfl (by simpa [hql] using Try.size32) (by simp [hql]) (all_one CQ1.out) ?_)
    | fail)
  obtain ⟨Q, HQE⟩ : ∃ Q, Hid (w.heap.size = Q) := ⟨_, rfl⟩
  rw [HQE.out]
  obtain ⟨w0, hw0⟩ : ∃ x, x = w.alloc (.cells CQ.toArray 32 (0, 0)) := ⟨_, rfl⟩
  rw [← hw0]
  have B0 : Hid (Below w.heap.size w w0) := (show Below _ _ _ by rw [hw0]; exact (Below.refl _ _).alloc (Nat.le_refl _) _)
  have E0 : Hid (Blk w0 Q 32 CQ) := (show Blk _ _ _ _ by rw [hw0, ← HQE.out]; exact Blk.new w 32 CQ)
  have HA0 : Hid (Rd w0 (.slice xa na ca) A) := HA.out.kept B0.out
  have HB0 : Hid (Rd w0 (.slice xb nb cb) B) := HB.out.kept B0.out
  have HQ0 : Hid (IsA w0 q (.slice aq q.B.length cq) (.slice ak q.keep.length ck)) := HQ.out.kept B0.out
  clear hw0 HA HB HQ
  have FIN : Hid (∀ w3, Below w0.heap.size w0 w3 → Calls Try.prog 10 #[] w3 fun e w' => e = .returned (.bool true) ∧ Below w.heap.size w w') := (show _ from fun w3 s3 => (lives_any w3).mono fun e w4 ⟨h1, h2⟩ => ⟨h1, B0.out.trans ((s3.trans (h2.mono s3.size)).mono B0.out.size)⟩)
  go_wp2_with fail
  refine (OneC.new w0 8 (by decide) (by decide)).mono ?_
  rintro e w1 ⟨D, rfl, c1, o1⟩
  have O1 : Hid (OneC w0 w1 D 8 (Pd.new 8) c1) := o1
  clear o1
  by_cases la : 256 < na
  · have q1 : decide ((256 : Int) < (na : Int)) = true := by simp; omega
    go_wp2_with fail
    refine (FIN.out w1 O1.out.below).mono ?_
    rintro e w4 ⟨rfl, hb4⟩
    have B3 : Hid (Below w.heap.size w w4) := hb4
    clear hb4
    go_wp2
    go_ret
    exact ⟨rfl, B3.out⟩
  have q1 : decide ((256 : Int) < (na : Int)) = false := by simp; omega
  by_cases lb : 256 < nb
  · have q2 : decide ((256 : Int) < (nb : Int)) = true := by simp; omega
    go_wp2_with fail
    refine (FIN.out w1 O1.out.below).mono ?_
    rintro e w4 ⟨rfl, hb4⟩
    have B3 : Hid (Below w.heap.size w w4) := hb4
    clear hb4
    go_wp2
    go_ret
    exact ⟨rfl, B3.out⟩
  have q2 : decide ((256 : Int) < (nb : Int)) = false := by simp; omega
  have EQ2 : Hid (Blk w1 Q 32 (AC q (.slice aq q.B.length cq) (.slice ak q.keep.length ck))) := (show Blk _ _ _ _ by rw [HCQ.out]; exact E0.out.kept O1.out.below)
  have c0 := EQ2.out.cell (j := 0) rfl
  have c1' := EQ2.out.cell (j := 1) rfl
  have c2 := EQ2.out.cell (j := 2) rfl
  have c3 := EQ2.out.cell (j := 3) rfl
  have c4 := EQ2.out.cell (j := 4) rfl
  go_wp2_with fail
  refine (light_any (L := [q]) (rdL_new (fr := (0, 0)) (HQ0.out.kept O1.out.below))).mono ?_
  rintro e w3 ⟨x, rfl, hx, hb3⟩
  have hb3' : Below w1.heap.size w1 w3 := ((Below.refl _ _).alloc (Nat.le_refl _) _).trans (hb3.mono (by simp))
  have O3 : Hid (OneC w0 w3 D 8 (Pd.new 8) c1) := O1.out.kept hb3'
  clear O1 hb3 hb3' EQ2 c0 c1' c2 c3 c4 q1 q2
  cases x with
  | false =>
    go_wp2_with fail
    refine (FIN.out w3 O3.out.below).mono ?_
    rintro e w4 ⟨rfl, hb4⟩
    have B3 : Hid (Below w.heap.size w w4) := hb4
    clear hb4
    go_wp2
    go_ret
    exact ⟨rfl, B3.out⟩
  | true =>
    have HY : Hid (Light [q]) := hx rfl
    clear hx
    obtain ⟨m1, m2, m3, Z, hZ, e1, e2, e3, hT⟩ := two_acts (A := A) (B := B) (by rw [HNA.out]; omega) (by rw [HNB.out]; omega)
    have HZ : Hid (Z = List.replicate (32 * 8) (0 : UInt8)) := hZ
    have HT : Hid (Two m3 (spl Z 0 A) (spl (spl Z 0 A) 0 B)) := hT
    have E1 : Hid _ := e1
    have E2 : Hid _ := e2
    have E3 : Hid _ := e3
    clear hZ hT e1 e2 e3
    go_wp2_with fail
    refine (O3.out.write 0 (by decide) _ A HA0.out).mono ?_
    rw [Hid.out E1]
    rintro e w4 ⟨rfl, c4, o4, -⟩
    have O4 : Hid (OneC w0 w4 D 8 m1 c4) := o4
    clear o4 O3
    go_wp2_with fail
    refine (O4.out.sync).mono ?_
    rw [Hid.out E2]
    rintro e w5 ⟨rfl, c5, o5, -⟩
    have O5 : Hid (OneC w0 w5 D 8 m2 c5) := o5
    clear o5 O4
    go_wp2_with fail
    refine (O5.out.write 0 (by decide) _ B HB0.out).mono ?_
    rw [Hid.out E3]
    rintro e w6 ⟨rfl, c6, o6, -⟩
    have O6 : Hid (OneC w0 w6 D 8 m3 c6) := o6
    clear o6 O5 E1 E2 E3
    go_upto_region 6 with fail
    obtain ⟨M, HM⟩ : ∃ Z, Hid (Z = 256) := ⟨256, rfl⟩
    have hM : (256 : Int) = (M : Int) := by rw [HM.out]; rfl
    have hmk := make_run hi0 hz0 hz1 hz2 M (by rw [HM.out]; omega)
    refine wp_name ?_
    intro a0 ha0
    refine Code.wp_mono (Q := fun e a' w' => ∃ G1 G2, e = .normal ∧ G1 ≠ G2 ∧ w6.heap.size ≤ G1 ∧ w6.heap.size ≤ G2 ∧ G1 < w6.heap.size + 2 ∧ G2 < w6.heap.size + 2 ∧ w' = (w6.drew.alloc (.cells (Array.replicate M (Value.int .u8 0)) 5 (0, 0))).alloc (.cells (Array.replicate M (Value.int .u8 0)) 5 (0, 0)) ∧
      a' = (((a0.put (some 60) (.slice (some ⟨G1, 0, none⟩) M M)).put (some 61) (.slice (some ⟨G2, 0, none⟩) M M)).put (some 8) (.slice (some ⟨G1, 0, none⟩) M M)).put (some 9) (.slice (some ⟨G2, 0, none⟩) M M)) ?_ ?_
    · subst ha0
      rintro e a' w7 ⟨G1, G2, rfl, hG, hG1, hG2, hG3, hG4, hw7, rfl⟩
      simp only [Act.put, List.setIfInBounds_toArray, List.set_cons_succ, List.set_cons_zero]
      have hl0 : (By Z).toArray = Array.replicate M (Value.int .u8 0) := by
        have : ∀ k, (By (List.replicate k 0)).toArray = Array.replicate k (Value.int .u8 0) := fun k => by simp [By]
        rw [HZ.out, this, HM.out]
      rw [← hl0] at hw7
      obtain ⟨c7, O7, C7, B71, B72⟩ : ∃ c7, OneC w0 w7 D 8 m3 c7 ∧ (c7 G1 = 9 ∧ c7 G2 = 9) ∧ Blk w7 G1 5 (By Z) ∧ Blk w7 G2 5 (By Z) := by
        have o6 : OneC w0 w6.drew D 8 m3 c6 := O6.out.chg (Chg.drew (fun _ => False) w6) (fun k hk _ => hk.elim)
        obtain ⟨ca, oa, ga, xa'⟩ := o6.mine (.cells (By Z).toArray 5 (0, 0))
        obtain ⟨cb', ob, gb, xb'⟩ := oa.mine (.cells (By Z).toArray 5 (0, 0))
        have hsz : (w6.drew.alloc (.cells (By Z).toArray 5 (0, 0))).heap.size = w6.heap.size + 1 := by simp
        rw [← hw7] at ob
        rw [hsz] at gb xb'
        have hN1 : Blk w7 w6.heap.size 5 (By Z) := by rw [hw7]; exact (Blk.new w6.drew 5 (By Z)).alloc _
        have hN2 : Blk w7 (w6.heap.size + 1) 5 (By Z) := by rw [hw7, ← hsz]; exact Blk.new _ 5 (By Z)
        have hga : cb' w6.heap.size = 9 := (xb' _ (by omega)).trans ga
        refine ⟨cb', ob, ?_, ?_, ?_⟩
        · rcases (show G1 = w6.heap.size ∨ G1 = w6.heap.size + 1 by omega) with h | h <;> rcases (show G2 = w6.heap.size ∨ G2 = w6.heap.size + 1 by omega) with h' | h' <;> rw [h, h'] <;> first | exact ⟨hga, hga⟩ | exact ⟨hga, gb⟩ | exact ⟨gb, hga⟩ | exact ⟨gb, gb⟩
        · rcases (show G1 = w6.heap.size ∨ G1 = w6.heap.size + 1 by omega) with h | h <;> rw [h] <;> first | exact hN1 | exact hN2
        · rcases (show G2 = w6.heap.size ∨ G2 = w6.heap.size + 1 by omega) with h | h <;> rw [h] <;> first | exact hN1 | exact hN2
      have O7' : Hid (OneC w0 w7 D 8 m3 c7) := O7
      have C7' : Hid (c7 G1 = 9 ∧ c7 G2 = 9) := C7
      have P7 : Hid (Blk w7 G1 5 (By Z)) := B71
      have R7 : Hid (Blk w7 G2 5 (By Z)) := B72
      have HG : Hid (G1 ≠ G2) := hG
      have hZl : Z.length = 256 := by rw [HZ.out, List.length_replicate]
      clear hw7 O7 C7 B71 B72 hG hG1 hG2 hG3 hG4 O6 hmk hM hl0
      have RA7 : Hid (Rd w7 (.slice xa na ca) A) := HA0.out.kept O7'.out.below
      go_upto_region 8 with (first
        | (refine wpList_copy_bytes rfl _ _ 29 29 rfl 5 Try.underlying29 Try.size5 G2 0 M M _ A rfl rfl RA7.out A na (List.take_of_length_le (by have := HM.out; have := HNA.out; omega)) HNA.out 5 (By Z) R7.out (by rw [By_length, hZl]; have := HM.out; omega) ?_)
        | fail)
      obtain ⟨w8, hw8⟩ : ∃ x, x = w7.setCells G2 0 (By A) := ⟨_, rfl⟩
      rw [← hw8]
      have hAl : A.length ≤ 256 := by rw [HNA.out]; omega
      have hBl : B.length ≤ 256 := by rw [HNB.out]; omega
      obtain ⟨old, HO⟩ : ∃ l, Hid (spl Z 0 A = l) := ⟨_, rfl⟩
      obtain ⟨now, HW⟩ : ∃ l, Hid (spl (spl Z 0 A) 0 B = l) := ⟨_, rfl⟩
      have hol : old.length = 256 := by rw [← HO.out, Pd.spl_length (by omega)]; exact hZl
      have hnl : now.length = 256 := by rw [← HW.out, HO.out, Pd.spl_length (by omega)]; exact hol
      have O8 : Hid (OneC w0 w8 D 8 m3 c7) := (show OneC _ _ _ _ _ _ by rw [hw8]; exact O7'.out.chg (Chg.setCells (F := fun k => k = G2) _ rfl 0 _) (fun k hk _ => by rw [hk]; exact C7'.out.2))
      have P8 : Hid (Blk w8 G1 5 (By Z)) := (show Blk _ _ _ _ by rw [hw8]; exact P7.out.chg (Chg.setCells (F := fun k => k = G2) _ rfl 0 _) HG.out)
      have R8 : Hid (Blk w8 G2 5 (By old)) := (show Blk _ _ _ _ by
        have := Blk.over (By A) R7.out 0 (by rw [By_length, By_length]; omega)
        rw [By_over, HO.out] at this
        rw [hw8]; exact this)
      clear hw8 O7' P7 R7 RA7
      have RA8 : Hid (Rd w8 (.slice xa na ca) A) := HA0.out.kept O8.out.below
      go_upto_region 9 with (first
        | (refine wpList_copy_bytes rfl _ _ 29 29 rfl 5 Try.underlying29 Try.size5 G1 0 M M _ A rfl rfl RA8.out A na (List.take_of_length_le (by have := HM.out; have := HNA.out; omega)) HNA.out 5 (By Z) P8.out (by rw [By_length, hZl]; have := HM.out; omega) ?_)
        | fail)
      obtain ⟨w9, hw9⟩ : ∃ x, x = w8.setCells G1 0 (By A) := ⟨_, rfl⟩
      rw [← hw9]
      have O9 : Hid (OneC w0 w9 D 8 m3 c7) := (show OneC _ _ _ _ _ _ by rw [hw9]; exact O8.out.chg (Chg.setCells (F := fun k => k = G1) _ rfl 0 _) (fun k hk _ => by rw [hk]; exact C7'.out.1))
      have P9 : Hid (Blk w9 G1 5 (By old)) := (show Blk _ _ _ _ by
        have := Blk.over (By A) P8.out 0 (by rw [By_length, By_length]; omega)
        rw [By_over, HO.out] at this
        rw [hw9]; exact this)
      have R9 : Hid (Blk w9 G2 5 (By old)) := (show Blk _ _ _ _ by rw [hw9]; exact R8.out.chg (Chg.setCells (F := fun k => k = G1) _ rfl 0 _) (fun e => HG.out e.symm))
      clear hw9 O8 P8 R8 RA8
      have RB9 : Hid (Rd w9 (.slice xb nb cb) B) := HB0.out.kept O9.out.below
      go_upto_region 10 with (first
        | (refine wpList_copy_bytes rfl _ _ 29 29 rfl 5 Try.underlying29 Try.size5 G1 0 M M _ B rfl rfl RB9.out B nb (List.take_of_length_le (by have := HM.out; have := HNB.out; omega)) HNB.out 5 (By old) P9.out (by rw [By_length, hol]; have := HM.out; omega) ?_)
        | fail)
      obtain ⟨wa, hwa⟩ : ∃ x, x = w9.setCells G1 0 (By B) := ⟨_, rfl⟩
      rw [← hwa]
      have Oa : Hid (OneC w0 wa D 8 m3 c7) := (show OneC _ _ _ _ _ _ by rw [hwa]; exact O9.out.chg (Chg.setCells (F := fun k => k = G1) _ rfl 0 _) (fun k hk _ => by rw [hk]; exact C7'.out.1))
      have Pa : Hid (Blk wa G1 5 (By now)) := (show Blk _ _ _ _ by
        have := Blk.over (By B) P9.out 0 (by rw [By_length, By_length]; omega)
        rw [By_over, ← HO.out, HW.out] at this
        rw [hwa]; exact this)
      have Ra : Hid (Blk wa G2 5 (By old)) := (show Blk _ _ _ _ by rw [hwa]; exact R9.out.chg (Chg.setCells (F := fun k => k = G1) _ rfl 0 _) (fun e => HG.out e.symm))
      rw [HW.out, HO.out] at HT
      clear hwa O9 P9 R9 RB9 HA0 HB0
      go_wp2_with fail
      refine (Oa.out.dirty).mono ?_
      rintro e wb ⟨vd, rfl, rd, ob, bb⟩
      have Ob : Hid (OneC w0 wb D 8 m3 c7) := ob
      have Pb : Hid (Blk wb G1 5 (By now)) := Pa.out.kept bb
      have Rb : Hid (Blk wb G2 5 (By old)) := Ra.out.kept bb
      have hdl : m3.dirty.length ≤ 8 := by
        have h1 := HT.out.ok.nodup
        have h2 := HT.out.ok.low
        exact nodup_le h1 h2
      obtain ⟨ld, HLD⟩ : ∃ l, Hid ((Nats m3.dirty).length = l) := ⟨_, rfl⟩
      have hld : ld ≤ 8 := by rw [← HLD.out, Nats_length]; exact hdl
      obtain ⟨ad, cd, hvd, -⟩ := rd
      subst hvd
      rw [HLD.out]
      have EQb : Hid (Blk wb Q 32 (AC q (.slice aq q.B.length cq) (.slice ak q.keep.length ck))) := (show Blk _ _ _ _ by rw [HCQ.out]; exact E0.out.kept Ob.out.below)
      have c2 := EQb.out.cell (j := 2) rfl
      have c4 := EQb.out.cell (j := 4) rfl
      clear ob bb Oa Pa Ra EQb
      go_wp2_with fail
      refine (Ob.out.crash _ q.keep q.n HQ0.out.k HQ0.out.ws).mono ?_
      obtain ⟨mk, e1, e2, mo1, -, mn1⟩ := crash_start HT.out.off q.keep q.n
      rw [e1]
      rintro e wc ⟨rfl, cc, oc, sc⟩
      have Oc : Hid (OneC w0 wc D 8 (Pd.crash m3 q.keep q.n) cc) := oc
      obtain ⟨pc, gc1⟩ := Pb.out.other sc C7'.out.1
      obtain ⟨rc, gc2⟩ := Rb.out.other sc C7'.out.2
      have Pc : Hid (Blk wc G1 5 (By now)) := pc
      have Rc : Hid (Blk wc G2 5 (By old)) := rc
      have Cc : Hid (cc G1 = 9 ∧ cc G2 = 9) := ⟨gc1, gc2⟩
      have E2 : Hid (Pd.start (Pd.crash m3 q.keep q.n) = (true, mk)) := e2
      have MO : Hid (mk.off = false) := mo1
      have MN : Hid (mk.now = (Pd.crash m3 q.keep q.n).now) := mn1
      clear oc sc pc rc gc1 gc2 e1 e2 mo1 mn1 Ob Pb Rb c2 c4
      go_wp2_with fail
      refine (Oc.out.start).mono ?_
      rw [E2.out]
      rintro e wd ⟨rfl, c', od, sd⟩
      have Od : Hid (OneC w0 wd D 8 mk c') := od
      obtain ⟨pd, -⟩ := Pc.out.other sd Cc.out.1
      obtain ⟨rd', -⟩ := Rc.out.other sd Cc.out.2
      have Pd' : Hid (Blk wd G1 5 (By now)) := pd
      have Rd' : Hid (Blk wd G2 5 (By old)) := rd'
      clear od sd pd rd' Oc Pc Rc
      go_wp2_with fail
      refine (Od.out.read 0 256 (by decide)).mono ?_
      rintro e we ⟨vx, rfl, rx, oe, be⟩
      have hxl : mk.now.length = 256 := Od.out.ok.1.now
      rw [show Pd.read mk 0 256 = (mk.now, 0) from read_all MO.out Od.out.ok.1.now] at rx ⊢
      have Xe : Hid (Rd we vx mk.now) := rx
      have Be : Hid (Below w0.heap.size w0 we) := oe.below
      have Pe : Hid (Blk we G1 5 (By now)) := Pd'.out.kept be
      have Re : Hid (Blk we G2 5 (By old)) := Rd'.out.kept be
      obtain ⟨ax, cx, hvx, -⟩ := rx
      subst hvx
      rw [hxl] at Xe ⊢
      clear oe be Od Pd' Rd'
      go_wp2_with fail
      go_loopg [13, 14] 8 (fun g y x wr => ∃ s t : Nat, g + s = 8 ∧ x = .int .i64 (s : Int) ∧ y = .int .i64 (t : Int) ∧ Hid (t = 0 ∨ t = 1 ∧ ∃ s', s' < s ∧ Pd.cut1 q.keep m3.dirty = some s') ∧ Hid (Below we.heap.size we wr))
      case atStart => exact ⟨0, 0, rfl, rfl, rfl, .inl rfl, Below.refl _ _⟩
      case round =>
        obtain ⟨s, t, hgs, rfl, rfl, HTN, LR⟩ := hrel
        by_cases hlt : s < 8
        · have q3 : (s : Int) < 8 := by omega
          have Bf : Hid (Below w0.heap.size w0 wr) := Be.out.trans (LR.out.mono Be.out.size)
          have Pf : Hid (Blk wr G1 5 (By now)) := Pe.out.kept LR.out
          have Rf : Hid (Blk wr G2 5 (By old)) := Re.out.kept LR.out
          have Xf : Hid (Rd wr (.slice ax 256 cx) mk.now) := Xe.out.kept LR.out
          obtain ⟨hk1, hk2⟩ := sector HT.out MN.out hol hnl hlt
          have HK1 : Hid ((s : Int) ∈ q.keep → sct mk.now s = sct now s) := hk1
          have HK2 : Hid ((s : Int) ∉ q.keep → sct mk.now s = sct old s ∨ sct mk.now s = sct now s ∨ (Pd.cut1 q.keep m3.dirty = some s ∧ 1 ≤ q.n ∧ q.n ≤ 31 ∧ sct mk.now s = (sct now s).take q.n.toNat ++ (sct old s).drop q.n.toNat)) := hk2
          clear hk1 hk2
          have rp : Rd wr (.slice (some ⟨G2, 0, none⟩) M M) old := rd_blk Rf.out (by rw [hol, HM.out]) (by rw [HM.out]; omega)
          have rq : Rd wr (.slice (some ⟨G1, 0, none⟩) M M) now := rd_blk Pf.out (by rw [hnl, HM.out]) (by rw [HM.out]; omega)
          obtain ⟨gx, ox, rfl⟩ : ∃ gx ox, ax = some ⟨gx, ox, none⟩ := by
            obtain ⟨_, _, e1, h1⟩ := Xf.out.at
            simp only [Value.slice.injEq] at e1
            obtain ⟨rfl, -, rfl⟩ := e1
            obtain ⟨b, o, rfl, _⟩ := h1 (by rw [hxl]; omega)
            exact ⟨b, o, rfl⟩
          have hcx : 256 ≤ cx := by have := rd_cap Xf.out; exact this
          have s1 := slice_sub G2 0 M M s (by rw [HM.out]; omega)
          have s2 := slice_sub G1 0 M M s (by rw [HM.out]; omega)
          have s3 := slice_sub gx ox 256 cx s (by omega)
          obtain ⟨sp, HSP⟩ : ∃ x : ByteArray, Hid ((⟨(sct old s).toArray⟩ : ByteArray) = x) := ⟨_, rfl⟩
          obtain ⟨sq, HSQ⟩ : ∃ x : ByteArray, Hid ((⟨(sct now s).toArray⟩ : ByteArray) = x) := ⟨_, rfl⟩
          obtain ⟨sy, HSY⟩ : ∃ x : ByteArray, Hid ((⟨(sct mk.now s).toArray⟩ : ByteArray) = x) := ⟨_, rfl⟩
          have k1 : ∀ n, (convert 29 9 (.slice (some ⟨G2, 0 + 32 * s, none⟩) 32 (M - 32 * s))).run Try.prog (wr.drewN n) = .ok (.string sp) (wr.drewN n) := fun n => by
            have := ((rp.kept (below_drewN wr _ n)).sector (s := s) (by rw [HM.out]; omega)).conv (P := Try.prog) 29 9 Try.underlying29 Try.underlying5 Try.underlying9
            rwa [HSP.out] at this
          have k2 : ∀ n, (convert 29 9 (.slice (some ⟨G1, 0 + 32 * s, none⟩) 32 (M - 32 * s))).run Try.prog (wr.drewN n) = .ok (.string sq) (wr.drewN n) := fun n => by
            have := ((rq.kept (below_drewN wr _ n)).sector (s := s) (by rw [HM.out]; omega)).conv (P := Try.prog) 29 9 Try.underlying29 Try.underlying5 Try.underlying9
            rwa [HSQ.out] at this
          have k3 : ∀ n, (convert 29 9 (.slice (some ⟨gx, ox + 32 * s, none⟩) 32 (cx - 32 * s))).run Try.prog (wr.drewN n) = .ok (.string sy) (wr.drewN n) := fun n => by
            have := ((Xf.out.kept (below_drewN wr _ n)).sector (s := s) (by omega)).conv (P := Try.prog) 29 9 Try.underlying29 Try.underlying5 Try.underlying9
            rwa [HSY.out] at this
          simp only [Nat.zero_add] at s1 s2 k1 k2
          clear rp rq Pf Rf Xf
          go_upto_region 20 with fail
          have d1 : (convert 29 9 (.slice (some ⟨G2, 32 * s, none⟩) 32 (M - 32 * s))).run Try.prog wr.drew = .ok (.string sp) wr.drew := k1 1
          have d2 : (convert 29 9 (.slice (some ⟨G1, 32 * s, none⟩) 32 (M - 32 * s))).run Try.prog wr.drew = .ok (.string sq) wr.drew := k2 1
          have d3 : (convert 29 9 (.slice (some ⟨gx, ox + 32 * s, none⟩) 32 (cx - 32 * s))).run Try.prog wr.drew = .ok (.string sy) wr.drew := k3 1
          clear k1 k2 k3
          have e1 : IntKind.i64.wrap (32 * (s : Int)) = 32 * (s : Int) := wrap_small (by omega) (by omega)
          have e2 : IntKind.i64.wrap (32 * (s : Int) + 32) = 32 * (s : Int) + 32 := wrap_small (by omega) (by omega)
          refine wp_region_still_lit Try.mixed (by kernel_rfl) ?_
          iterate 27 still_step
          refine wpStill_nil ?_
          clear e1 e2 d1 d2 d3 s1 s2 s3
          obtain ⟨wz, hwz⟩ : ∃ x, x = wr.drew := ⟨_, rfl⟩
          have hbz : Below wr.heap.size wr wz := by rw [hwz]; exact below_drewN wr _ 1
          show Exit.then _ _ Exit.normal _ wr.drew
          rw [← hwz]
          have LZ : Hid (Below we.heap.size we wz) := LR.out.trans (hbz.mono LR.out.size)
          have BZ : Hid (Below w0.heap.size w0 wz) := Bf.out.trans (hbz.mono Bf.out.size)
          have EQz : Hid (Blk wz Q 32 (AC q (.slice aq q.B.length cq) (.slice ak q.keep.length ck))) := (show Blk _ _ _ _ by rw [HCQ.out]; exact E0.out.kept BZ.out)
          have KZ : Hid (RdN wz (.slice ak q.keep.length ck) q.keep) := HQ0.out.k.kept BZ.out
          have c2 := EQz.out.cell (j := 2) rfl
          have c4 := EQz.out.cell (j := 4) rfl
          obtain ⟨lk, HLK⟩ : ∃ l, Hid (q.keep.length = l) := ⟨_, rfl⟩
          rw [HLK.out] at c4 KZ
          have hlk : lk ≤ 100 := by rw [← HLK.out]; exact (HY.out.2 q (by simp)).2
          clear hwz hbz LR Bf EQz
          obtain ⟨wq, hwq⟩ : ∃ x, x = wz := ⟨_, rfl⟩
          have HWQ : Hid (wq = wz) := hwq
          rw [← hwq] at LZ KZ c2
          clear hwq
          go_wp2_with fail
          go_loopg [18, 128] lk (fun g y x wt => ∃ j : Nat, g + j = lk ∧ x = .int .i64 (j : Int) ∧ y = .bool (!noneOf q.keep (s : Int) j) ∧ wt = wq)
          case atStart => exact ⟨0, by omega, rfl, rfl, HWQ.out.symm⟩
          case round =>
            obtain ⟨j, hgj, rfl, rfl, rfl⟩ := hrel
            obtain ⟨bl, HBL⟩ : ∃ b, Hid (noneOf q.keep (s : Int) j = b) := ⟨_, rfl⟩
            rw [HBL.out]
            by_cases hj : j < lk
            · have q4 : (j : Int) < (lk : Int) := by omega
              have hj' : j < q.keep.length := by rw [HLK.out]; exact hj
              obtain ⟨_, _, e1, -, h1⟩ := KZ.out.at
              simp only [Value.slice.injEq] at e1
              obtain ⟨rfl, -, rfl⟩ := e1
              obtain ⟨ba, oa, rfl, hca⟩ := h1 (by omega)
              have cc := hca j hj'
              clear hca h1
              obtain ⟨x, HX⟩ : ∃ x, Hid (q.keep[j] = x) := ⟨_, (show q.keep[j] = _ from rfl)⟩
              rw [HX.out] at cc
              have HS : Hid (noneOf q.keep (s : Int) (j + 1) = (bl && decide (x ≠ (s : Int)))) := (show noneOf q.keep (s : Int) (j + 1) = (bl && decide (x ≠ (s : Int))) by rw [noneOf_succ (List.getElem?_eq_getElem hj'), HX.out, HBL.out])
              clear HK1 HK2 HTN Be Xe Pe Re HT FIN E0 HQ0 HCQ MO MN CQ1
              cases bl with
              | false =>
                simp only [Bool.not_false]
                go_wp2_with fail
                go_roundg (gk - 1)
                case measure => omega
                case rel => exact ⟨j + 1, by omega, by go_num, by rw [HS.out]; rfl, rfl⟩
              | true =>
                simp only [Bool.not_true]
                go_wp2_with fail
                go_roundg (gk - 1)
                case measure => omega
                case rel => exact ⟨j + 1, by omega, by go_num, by rw [HS.out]; simp; rfl, rfl⟩
            · obtain rfl : j = lk := by omega
              have HM2 : Hid (bl = decide ((s : Int) ∉ q.keep)) := (show bl = decide ((s : Int) ∉ q.keep) by
                rw [← HBL.out]
                unfold noneOf
                rw [List.take_of_length_le (by rw [HLK.out]; exact Nat.le_refl _)]
                by_cases hm : (s : Int) ∈ q.keep
                · rw [decide_eq_false (by simpa using hm), List.all_eq_false]
                  exact ⟨_, hm, by simp⟩
                · rw [decide_eq_true hm, List.all_eq_true]
                  intro x hx
                  simp only [decide_eq_true_eq]
                  exact fun e => hm (e ▸ hx))
              clear KZ
              cases bl with
              | false =>
                have hin : (s : Int) ∈ q.keep := by
                  have := HM2.out
                  by_cases hm : (s : Int) ∈ q.keep
                  · exact hm
                  · rw [decide_eq_true hm] at this; cases this
                have hyq : sy = sq := by rw [← HSY.out, ← HSQ.out, HK1.out hin]
                clear hin HK1 HK2
                subst hyq
                simp only [Bool.not_false]
                by_cases hpe : sy.toList = sp.toList
                · have q5 : (sy.toList == sp.toList) = true := by simp [hpe]
                  go_wp2_with fail
                  go_roundg (7 - s)
                  case measure => omega
                  case rel => exact ⟨s + 1, t, by omega, by go_num, rfl, HTN.out.imp id (fun ⟨a, s', b, c⟩ => ⟨a, s', by omega, c⟩), LZ⟩
                · have q5 : (sy.toList == sp.toList) = false := by simp [hpe]
                  go_wp2_with fail
                  go_roundg (7 - s)
                  case measure => omega
                  case rel => exact ⟨s + 1, t, by omega, by go_num, rfl, HTN.out.imp id (fun ⟨a, s', b, c⟩ => ⟨a, s', by omega, c⟩), LZ⟩
              | true =>
                have hin : (s : Int) ∉ q.keep := by
                  have := HM2.out
                  by_cases hm : (s : Int) ∈ q.keep
                  · rw [decide_eq_false (by simpa using hm)] at this; cases this
                  · exact hm
                have hk2 := HK2.out hin
                clear hin HK1 HK2
                simp only [Bool.not_true]
                by_cases hpe : sy.toList = sp.toList
                · have q5 : (sy.toList == sp.toList) = true := by simp [hpe]
                  go_wp2_with fail
                  go_roundg (7 - s)
                  case measure => omega
                  case rel => exact ⟨s + 1, t, by omega, by go_num, rfl, HTN.out.imp id (fun ⟨a, s', b, c⟩ => ⟨a, s', by omega, c⟩), LZ⟩
                · have q5 : (sy.toList == sp.toList) = false := by simp [hpe]
                  by_cases hqe : sy.toList = sq.toList
                  · have hne : ¬ sq.toList = sp.toList := by rw [← hqe]; exact hpe
                    have q7 : (sq.toList == sp.toList) = false := by simp [hne]
                    go_wp2_with fail
                    go_roundg (7 - s)
                    case measure => omega
                    case rel => exact ⟨s + 1, t, by omega, by go_num, rfl, HTN.out.imp id (fun ⟨a, s', b, c⟩ => ⟨a, s', by omega, c⟩), LZ⟩
                  · have q6 : (sy.toList == sq.toList) = false := by simp [hqe]
                    have HC : Hid (Pd.cut1 q.keep m3.dirty = some s ∧ 1 ≤ q.n ∧ q.n ≤ 31 ∧ sct mk.now s = (sct now s).take q.n.toNat ++ (sct old s).drop q.n.toNat) := by
                      rcases hk2 with h | h | h
                      · exact absurd (by rw [← HSY.out, ← HSP.out, h]) hpe
                      · exact absurd (by rw [← HSY.out, ← HSQ.out, h]) hqe
                      · exact h
                    clear hk2
                    obtain ⟨N, HNN⟩ : ∃ N : Nat, Hid (q.n = (N : Int)) := ⟨q.n.toNat, (show _ = _ by have := HC.out.2.1; omega)⟩
                    have hN1 : 1 ≤ N := by have := HC.out.2.1; have := HNN.out; omega
                    have hN2 : N ≤ 31 := by have := HC.out.2.2.1; have := HNN.out; omega
                    have ht0 : t = 0 := by
                      rcases HTN.out with h | ⟨_, s', hs', hc'⟩
                      · exact h
                      · rw [HC.out.1] at hc'
                        cases hc'
                        omega
                    subst ht0
                    rw [HNN.out] at c2
                    have HSE : Hid (sy = sq.extract 0 N ++ sp.extract N sp.size) := (show sy = _ by
                      have h4 := HC.out.2.2.2
                      rw [HNN.out, Int.toNat_natCast] at h4
                      rw [← HSY.out, ← HSQ.out, ← HSP.out, h4]
                      exact cut_str _ _ _)
                    have hsq : sq.size = 32 := by rw [← HSQ.out]; exact (by simpa using sct_length (s := s) hnl hlt : (sct now s).toArray.size = 32)
                    have hsp : sp.size = 32 := by rw [← HSP.out]; exact (by simpa using sct_length (s := s) hol hlt : (sct old s).toArray.size = 32)
                    go_upto_region 31 with fail
                    have i1 : (N : Int) ≤ (sq.size : Int) := by omega
                    have i2 : (N : Int) ≤ (sp.size : Int) := by omega
                    have j1 : decide ((N : Int) < 1) = false := by simp; omega
                    have j2 : decide ((31 : Int) < (N : Int)) = false := by simp; omega
                    obtain ⟨sa, ea⟩ : ∃ x, sq.extract 0 N = x := ⟨_, rfl⟩
                    obtain ⟨sb, eb⟩ : ∃ x, sp.extract N sp.size = x := ⟨_, rfl⟩
                    have za : sa.size + sb.size ≤ 64 := by rw [← ea, ← eb]; simp; omega
                    have zb : sa.size + sb.size ≤ 9223372036854775807 := by omega
                    rw [ea, eb] at HSE
                    obtain ⟨sc, ec⟩ : ∃ x, sa ++ sb = x := ⟨_, rfl⟩
                    rw [ec] at HSE
                    have hadd : ∀ W : World, (Op.stringOp .add sa sb).run Try.prog W = .ok (.string sc) W := fun W => by rw [← ec]; exact run_string_add_sum (P := Try.prog) (w := W) sa sb zb
                    have j3 : (sy.toList == sc.toList) = true := by rw [← HSE.out]; simp
                    clear hsq hsp q5 q6 hpe hqe za
                    clear HTN Be Xe Pe Re HT FIN E0 HQ0 HCQ MO MN CQ1 HY HM2 HBL c4
                    go_quiet (fail)
                    go_wp2_with fail
                    go_roundg (7 - s)
                    case measure => omega
                    case rel => exact ⟨s + 1, 1, by omega, by go_num, rfl, .inr ⟨rfl, s, by omega, HC.out.1⟩, LZ.out.trans ((below_drewN _ _ _).mono LZ.out.size)⟩
        · obtain rfl : s = 8 := by omega
          have q3 : (ld : Int) ≤ 8 := by omega
          have Bf : Hid (Below w0.heap.size w0 wr) := Be.out.trans (LR.out.mono Be.out.size)
          go_wp2_with fail
          refine (FIN.out wr Bf.out).mono ?_
          rintro e w4 ⟨rfl, hb4⟩
          have B3 : Hid (Below w.heap.size w w4) := hb4
          clear hb4
          go_wp2
          go_ret
          exact ⟨rfl, B3.out⟩
    · subst ha0
      go_region
      · exact ⟨w6.heap.size, w6.heap.size + 1, rfl, by omega, by omega, by omega, by omega, by omega, rfl, rfl⟩
      · exact ⟨w6.heap.size + 1, w6.heap.size, rfl, by omega, by omega, by omega, by omega, by omega, rfl, rfl⟩
end Go.Proofs.Ytnkcjhfdmnpckaa
