/-
  package session: sawKey, had: what the calls do.
-/
import Derived.Test.YtcicekggeampcaaSeB
namespace Go.Proofs.Ytcicekggeampcaa
open Go.RowKit
/-- The reads with one of a key, if it was not read. -/
def sawP (R : List Rp) (k : ByteArray) (ps : List Pr) : List Rp := if seenK R k = true then R else R ++ [(false, k, em, ps)]
theorem build_read (k : ByteArray) (a : Option Addr) (n c : Nat) : ∀ W : World, (Instr.build 64 #[(1, .string k), (3, .slice a n c)]).run Try.prog W = .ok (.agg #[.bool false, .string k, .string ⟨#[]⟩, .slice a n c]) W := fun W => by kernel_rfl
theorem build_unit : ∀ W : World, (Instr.build 85 #[]).run Try.prog W = .ok (.agg #[]) W := fun W => by kernel_rfl
theorem szr : ∀ W : World, (sizeOf 51).run Try.prog W = .ok 1 W := fun W => by kernel_rfl
/-- Where one read more is kept: from its row in memory to the transaction. -/
theorem TxAt.addR {w1 w2 w3 w4 w5 : World} {B : Nat} {b : Tb} {t : Tx} {x : Rz} {p9 : Option Addr} {c9 : Nat} (h : TxAt w1 B b t) (s2 : SetS w2 b.S (t.R ++ [plR x])) (c12 : Chg (fun k => k = b.S) w1 w2) (l23 : Below w2.heap.size w2 w3)
    (o4 : OwnG XE w4 B 64 (.slice p9 (b.Q.length + 1) c9) (b.Q ++ [x])) (c34 : Chg (fun k => b.v.ownBlock = some k) w3 w4) (hv : ∀ k, (Value.slice p9 (b.Q.length + 1) c9).ownBlock = some k → b.v.ownBlock = some k ∨ w3.heap.size ≤ k) (d5 : Blk w5 b.T 91 ((TC b t).set 2 (.slice p9 (b.Q.length + 1) c9))) (c45 : Chg (fun k => k = b.T) w4 w5)
    (hx : OwnG PE w1 B 48 (xv x) x.ps) (hlen : t.R.length < t.ops) : TxAt w5 B { b with a := p9, c := c9, Q := b.Q ++ [x] } { t with R := t.R ++ [plR x] } := by
  have n := h.apart
  have hb13 : ∀ {k : Nat}, k < w1.heap.size → k < w3.heap.size := fun hk => Nat.lt_of_lt_of_le hk (Nat.le_trans c12.size l23.size)
  have c13 : Chg (fun k => k = b.S) w1 w3 := c12.trans (Chg.of_below l23)
  have hpk : ∀ y, y ∈ b.Q ∨ y = x → OwnG PE w1 B 48 (xv y) y.ps → OwnG PE w5 B 48 (xv y) y.ps := by
    intro y _ hy
    have hne : ∀ k, (xv y).ownBlock = some k → k ≠ b.T ∧ k ≠ b.S ∧ ¬ b.v.ownBlock = some k := fun k hk => by
      obtain ⟨_, _, cur, hc⟩ := hy.block hk
      refine ⟨cells_ne hc h.d (by decide), cells_map hc h.set.block, fun e => ?_⟩
      obtain ⟨_, _, cur', hc'⟩ := h.row.block e
      exact cells_ne hc hc' (by decide) rfl
    exact ((hy.chg c13 (fun k hk => (hne k hk).2.1)).chg c34 (fun k hk => (hne k hk).2.2)).chg c45 (fun k hk => (hne k hk).1)
  have hv5 : ∀ k, (Value.slice p9 (b.Q.length + 1) c9).ownBlock = some k → ¬ k = b.T := fun k hk e => by
    rcases hv k hk with h1 | h1
    · exact (n.v k h1).1 e
    · have := hb13 h.d.lt
      omega
  refine ⟨?_, ?_, fun y hy => ?_, ?_, ?_, ?_, h.ne, h.lo, h.ops, ?_⟩
  · have e : (TC b t).set 2 (.slice p9 (b.Q.length + 1) c9) = TC { b with a := p9, c := c9, Q := b.Q ++ [x] } { t with R := t.R ++ [plR x] } := by
      unfold TC
      simp [Tb.v]
    rw [← e]
    exact d5
  · have := o4.chg c45 hv5
    show OwnG XE w5 B 64 (.slice p9 (b.Q ++ [x]).length c9) (b.Q ++ [x])
    rw [List.length_append, List.length_singleton]
    exact this
  · rcases List.mem_append.1 hy with hy | hy
    · exact hpk y (.inl hy) (h.ps y hy)
    · rw [List.mem_singleton] at hy
      subst hy
      exact hpk y (.inr rfl) hx
  · show (b.Q ++ [x]).map plR = _
    rw [List.map_append, h.pl]
    rfl
  · exact ((s2.chg (F := fun _ => False) (Chg.of_below l23) (fun h => h)).chg c34 (fun e => (n.v _ e).2.1 rfl)).chg c45 n.TS.symm
  · exact ((h.buf.chg c13 n.DS n.SM.symm).chg c34 (fun e => (n.v _ e).2.2.2 rfl) (fun e => (n.v _ e).2.2.1 rfl)).chg c45 n.TD.symm n.TM.symm
  · show (t.R ++ [plR x]).length ≤ t.ops
    rw [List.length_append, List.length_singleton]
    omega
set_option maxHeartbeats 1000000 in
set_option maxRecDepth 100000 in
theorem zSaw_any {w : World} {B : Nat} {b : Tb} {t : Tx} (h : TxAt w B b t) (k : ByteArray) (hk : k.size ≤ maxLen) {la : Option Addr} {lc : Nat} {ps : List Pr} (hl : OwnG PE w B 48 (.slice la ps.length lc) ps) (hlen : t.R.length < t.ops) :
    Calls Try.prog 44 #[PT b.T, .string k, .slice la ps.length lc] w fun e w' => e = .returned (.tuple #[]) ∧ ∃ b', TxAt w' B b' { t with R := sawP t.R k ps } ∧ Chg b.G w w' ∧ b'.T = b.T ∧ (∀ j, b'.G j → b.G j ∨ w.heap.size ≤ j) := by
  have H := hide h
  have HLL := hide hl
  have HLN := hide hlen
  have c3 := h.d.cell (j := 3) rfl
  obtain ⟨q, HQ⟩ : ∃ q, Hid (seenK t.R k = q) := ⟨_, rfl⟩
  have hlk := h.set.look k hk
  rw [HQ.out] at hlk
  have HS : Hid (sawP t.R k ps = if q = true then t.R else t.R ++ [(false, k, em, ps)]) := (show _ = _ by unfold sawP; rw [HQ.out])
  have hzu := zeroU
  have hbu := build_unit
  obtain ⟨E1, HE1⟩ : ∃ E, Hid (w.heap.size = E) := ⟨_, rfl⟩
  obtain ⟨w1, hw1⟩ : ∃ y, y = w.alloc (.cells ([] : List Value).toArray 85 (0, 0)) := ⟨_, rfl⟩
  obtain ⟨b1, l1⟩ := newB HE1 hw1
  have HW1 := hide hw1
  have H1 := hide (h.kept l1.out)
  clear h hl hlen hw1
  obtain ⟨m, HM⟩ : ∃ m, Hid (ps.length = m) := ⟨_, rfl⟩
  rw [HM.out] at HLL ⊢
  go_enter Try.func44, Try.ntmps44
  go_upto_region 1 with (first
    | (refine wpList_store_new rfl 85 _ _ rfl w _ #[] _ rfl rfl rfl (by kernel_rfl) rfl rfl ?_)
    | fail)
  change Code.wp _ _ _ _ (w.alloc (.cells ([] : List Value).toArray 85 (0, 0)))
  rw [← HW1.out, HE1.out]
  cases q with
  | true =>
    rw [if_pos rfl] at HS
    go_wp2_with fail
    first | go_end0 | (simp only [Exit.inBlock, Exit.then]; refine bodyPost_ret (results_none rfl _ _ _) rfl ?_) | refine bodyPost_ret (results_none rfl _ _ _) rfl ?_
    refine ⟨rfl, b, ?_, Chg.of_below l1.out, rfl, fun j hj => .inl hj⟩
    rw [HS.out]
    exact H1.out
  | false =>
    rw [if_neg (by decide)] at HS
    obtain ⟨w2, hup, s2, ht2⟩ := H1.out.set.put (by have := H1.out.len; have := H1.out.ops; omega) k hk ps
    have C12 : Hid (Chg (fun j => j = b.S) w1 w2) := (show Chg _ _ _ from Chg.turned ht2 rfl)
    have S2 := hide s2
    clear ht2 hlk s2
    have n := hide H1.out.apart
    have T2 : Hid (Blk w2 b.T 91 (TC b t)) := (show Blk _ _ _ _ from H1.out.d.chg C12.out n.out.TS)
    have d3 := (H1.out.d).cell (j := 3) rfl
    have d2 := T2.out.cell (j := 2) rfl
    have hbr := build_read k la m lc
    obtain ⟨x, hx⟩ : ∃ x : Rz, x = ⟨false, k, em, ps, la, lc⟩ := ⟨_, rfl⟩
    have HXC : Hid (XC x = [.bool false, .string k, .string ⟨#[]⟩, .slice la m lc]) := (show _ = _ by rw [hx, ← HM.out]; rfl)
    have HXP : Hid (plR x = (false, k, em, ps)) := (show _ = _ by rw [hx]; rfl)
    have HXO : Hid (OwnG PE w1 B 48 (xv x) x.ps) := (show OwnG _ _ _ _ _ _ by
      rw [hx]
      show OwnG PE w1 B 48 (.slice la ps.length lc) ps
      rw [HM.out]
      exact HLL.out.kept l1.out)
    obtain ⟨E2, HE2⟩ : ∃ E, Hid (w2.heap.size = E) := ⟨_, rfl⟩
    obtain ⟨w3, hw3⟩ : ∃ y, y = w2.alloc (.cells (XC x).toArray 64 (0, 0)) := ⟨_, rfl⟩
    obtain ⟨b3, l3⟩ := newB HE2 hw3
    have HW3 := hide hw3
    have R3 : Hid (RdG XE w3 (.slice (some ⟨E2, 0, none⟩) 1 1) [x]) := (show RdG _ _ _ _ by rw [hw3, ← HE2.out]; exact rdG_one w2 64 x)
    have hv2 : Hid (∀ j, b.v.ownBlock = some j → ¬ j = b.S) := (show _ from fun j hj => (n.out.v j hj).2.1)
    have O3 : Hid (OwnG XE w3 B 64 b.v b.Q) := (show OwnG _ _ _ _ _ _ from (H1.out.row.chg C12.out hv2.out).kept l3.out)
    have hB3 : Hid (B ≤ w3.heap.size) := (show B ≤ w3.heap.size by have h1 := H1.out.lo.1; have h2 := H1.out.d.lt; have h3 := C12.out.size; have h4 := l3.out.size; omega)
    have hq9 : Hid (b.Q.length + [x].length ≤ 10000000) := (show b.Q.length + 1 ≤ 10000000 by
      have h1 := congrArg List.length H1.out.pl
      rw [List.length_map] at h1
      have := H1.out.len
      have := H1.out.ops
      omega)
    have T3 : Hid (Blk w3 b.T 91 (TC b t)) := (show Blk _ _ _ _ from T2.out.kept l3.out)
    clear hw3 hx
    obtain ⟨bT, HbT⟩ : ∃ z, Hid (b.T = z) := ⟨_, rfl⟩
    rw [HbT.out] at d3 d2 c3 ⊢
    have HB4 : Hid (∀ w4 : World, Chg (fun j => b.v.ownBlock = some j) w3 w4 → Blk w4 bT 91 (TC b t)) := (show _ from fun w4 c => by rw [← HbT.out]; exact T3.out.chg c (fun e => (n.out.v _ e).1 rfl))
    go_upto_region 3 with fail
    go_wp2_with (first
      | (refine wpList_build1E (E := XE) (fun x W => build_read1 x W) rfl _ rfl x (by show _ = Value.agg (XC x).toArray; rw [HXC.out]; rfl) ?_; change wpList _ _ _ _ _ (w2.alloc (.cells (XC x).toArray 64 (0, 0))); rw [← HW3.out, HE2.out])
      | (refine wpList_append_E (E := XE) Try.underlying51 infoX (by decide) rfl (.tmp 28) (.tmp 32) rfl B b.v b.Q rfl O3.out _ [x] rfl R3.out hq9.out hB3.out ?_; intro v4 w4 o4 g4 q4; have O4 := hide o4; have G4 := hide g4; have Q4 := hide q4; clear o4 g4 q4; obtain ⟨p9, c9, hv9⟩ := O4.out.form; obtain ⟨n2, hn2⟩ : ∃ k, (b.Q ++ [x] : List Rz).length = k := ⟨_, rfl⟩; rw [hn2] at hv9; subst hv9; have C4 : Hid (Chg (fun j => b.v.ownBlock = some j) w3 w4) := (show Chg _ _ _ from Chg.of_grown G4.out (fun j e _ => e)); have T4 := hide (HB4.out w4 C4.out))
      | (refine wpList_store_sl rfl 51 szr _ _ rfl bT 2 91 (TC b t) _ _ _ rfl rfl T4.out (by simp [TC]) ?_; intro w5 hb5 hu5)
      | fail)
    go_end0
    obtain rfl : n2 = b.Q.length + 1 := by rw [← hn2]; simp
    have C5 : Chg (fun j => j = bT) w4 w5 := Chg.of_but hu5 rfl
    rw [← HbT.out] at C5 hb5
    have hv : ∀ j, (Value.slice p9 (b.Q.length + 1) c9).ownBlock = some j → b.v.ownBlock = some j ∨ w3.heap.size ≤ j := fun j hj => (Q4.out j hj).imp (fun h => h) (fun h => Nat.le_of_eq h.symm)
    have s2 : SetS w2 b.S (t.R ++ [plR x]) := by rw [HXP.out]; exact S2.out
    have R5 := H1.out.addR s2 C12.out l3.out O4.out C4.out hv hb5 C5 HXO.out HLN.out
    rw [HS.out, HXP.out] at *
    refine ⟨rfl, _, R5, ?_, rfl, fun j hj => ?_⟩
    · have c1 : Chg b.G w w1 := Chg.of_below l1.out
      have c2 : Chg b.G w1 w2 := C12.out.mono (fun j _ e => .inr (.inl e))
      have c3 : Chg b.G w2 w3 := Chg.of_below l3.out
      have c4 : Chg b.G w3 w4 := C4.out.mono (fun j _ e => .inr (.inr (.inr e)))
      have c5 : Chg b.G w4 w5 := C5.mono (fun j _ e => .inl e)
      exact (((c1.trans c2).trans c3).trans c4).trans c5
    · rcases hj with hj | hj | hj | hj
      · exact .inl (.inl hj)
      · exact .inl (.inr (.inl hj))
      · exact .inl (.inr (.inr (.inl hj)))
      · have h3 := l3.out.size
        have h2 := C12.out.size
        have h1 := l1.out.size
        have hj' : (Value.slice p9 (b.Q ++ [x]).length c9).ownBlock = some j := hj
        rw [List.length_append, List.length_singleton] at hj'
        rcases hv j hj' with h | h
        · exact .inl (.inr (.inr (.inr h)))
        · exact .inr (by omega)
#print axioms zSaw_any
end Go.Proofs.Ytcicekggeampcaa
