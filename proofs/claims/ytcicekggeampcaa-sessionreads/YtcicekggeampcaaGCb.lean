/-
  Texts that ride together: ChF ChG ChH ChI ChJ ChK ChQ.
-/
import Derived.Test.YtcicekggeampcaaGCa
import Derived.Test.YtcicekggeampcaaGG
import Derived.Laws.StructEq
/-
  The reference's Since, Cut, and plain: what the calls do.
-/
namespace Go.Proofs.Ytcicekggeampcaa
open Go.RowKit

theorem take_snoc {L : List Ver} {i : Nat} (h : i < L.length) : L.take (i + 1) = L.take i ++ [L[i]] := List.take_succ_eq_append_getElem h
theorem past_snoc (n : Int) (M : List Ver) (v : Ver) : past n (M ++ [v]) = past n M ++ if n < v.1 then [v] else [] := by
  unfold past
  rw [List.filter_append]
  congr 1
  by_cases h : n < v.1 <;> simp [h]
theorem upto_snoc (n : Int) (M : List Ver) (v : Ver) : upto n (M ++ [v]) = upto n M ++ if v.1 ≤ n then [v] else [] := by
  unfold upto
  rw [List.filter_append]
  congr 1
  by_cases h : v.1 ≤ n <;> simp [h]

/-- append(out, v). -/
theorem src_one (P : Program) (W : World) (p : Ver) (T t e : TypeId) (hk : P.underlying t = some (.slice e)) : Src P 3 t (.slice (some ⟨W.heap.size, 0, none⟩) 1 1) [p].length (VCs [p]) (W.alloc (.cells (VC p).toArray T (0, 0))) :=
  RdV.src (L := [p]) (rdV_one W T p) t e hk

end Go.Proofs.Ytcicekggeampcaa

/-
  The reference's Get: what the call does.
-/
namespace Go.Proofs.Ytcicekggeampcaa
open Go.RowKit

/-- What the loop holds: the last one, or none. -/
def lastOr (M : List Ver) : Ver := M.getLast?.getD zv
theorem lastOr_snoc (M : List Ver) (v : Ver) : lastOr (M ++ [v]) = v := by simp [lastOr]
theorem lastOr_some {M : List Ver} (h : M ≠ []) : M.getLast? = some (lastOr M) := by
  unfold lastOr
  cases e : M.getLast? with
  | none => exact absurd (List.getLast?_eq_none_iff.1 e) h
  | some v => rfl

end Go.Proofs.Ytcicekggeampcaa

/-
  Versions held against each other; the reference's Same and Put: what the calls do.
-/
namespace Go.Proofs.Ytcicekggeampcaa
open Go.RowKit

theorem eq_ver (x y : Ver) (W : World) : (binOp .eql 79 (.agg (VC x).toArray) (.agg (VC y).toArray)).run Try.prog W = .ok (.bool (decide (x = y))) W := by
  have u3 := Try.underlying3
  have u4 := Try.underlying4
  have u9 := Try.underlying9
  obtain ⟨a, s, d⟩ := x
  obtain ⟨a', s', d'⟩ := y
  rw [run_eql_struct, run_equalIn_agg W 9999 79 _ _ (by kernel_rfl) (by kernel_rfl)]
  simp [Program.fieldsOf, Try.underlying79, Op.eqFields, VC, go_sem, part, u3, u4, u9, ba_inj]
  by_cases h1 : a = a' <;> by_cases h2 : s = s' <;> by_cases h3 : d = d' <;> simp [h1, h2, h3]
theorem ne_ver (x y : Ver) (W : World) : (binOp .neq 79 (.agg (VC x).toArray) (.agg (VC y).toArray)).run Try.prog W = .ok (.bool (!decide (x = y))) W := by
  have u3 := Try.underlying3
  have u4 := Try.underlying4
  have u9 := Try.underlying9
  obtain ⟨a, s, d⟩ := x
  obtain ⟨a', s', d'⟩ := y
  rw [run_neq_struct, run_equalIn_agg W 9999 79 _ _ (by kernel_rfl) (by kernel_rfl)]
  simp [Program.fieldsOf, Try.underlying79, Op.eqFields, VC, go_sem, part, u3, u4, u9, ba_inj]
  by_cases h1 : a = a' <;> by_cases h2 : s = s' <;> by_cases h3 : d = d' <;> simp [h1, h2, h3]
end Go.Proofs.Ytcicekggeampcaa

/-
  The reference's Put: what the call does.
-/
namespace Go.Proofs.Ytcicekggeampcaa
open Go.RowKit

theorem ownV_none (w : World) (B : Nat) (e : TypeId) (hB : B ≤ w.heap.size) : OwnV (w.alloc (.cells #[] e (0, 0))) B e (.slice (some ⟨w.heap.size, 0, none⟩) 0 0) [] :=
  ⟨rfl, .inr ⟨w.heap.size, 0, #[], rfl, hB, heap_alloc_new w _, Nat.le_refl _, by simp [maxLen], rfl, rfl⟩⟩
/-- append onto a row of no room. -/
theorem run_append_fresh {P : Program} (w : World) (base : Nat) (t tx ty e : TypeId) (i : TypeInfo) (ht : P.underlying t = some (.slice e)) (hi : P.info? e = some i) (hz : i.zero = some (.agg (VC zv).toArray)) (hsize : i.size = 3) (hby : i.bytes = 32)
    (g : Addr) (hown : OwnV w base e (.slice (some g) 0 0) []) (x : Value) (M : List Ver) (hs : Src P 3 tx x M.length (VCs M) w) (hlen : M.length ≤ 4398046511104) (hbase : base ≤ w.heap.size) :
    ∃ v' w', (Builtin.append_ #[t, tx] ty #[.slice (some g) 0 0, x]).run P w = .ok v' w' ∧ OwnV w' base e v' M ∧ Below w.heap.size w w' := by
  by_cases hm : M.length = 0
  · have hM : M = [] := List.eq_nil_of_length_eq_zero hm
    subst hM
    refine ⟨.slice (some g) 0 0, w, ?_, hown, Below.refl _ _⟩
    have h1 := hs.len
    have h2 := hs.cells
    simp only [List.length_nil, VCs_nil] at h1 h2
    rcases hs.kind with ⟨e', hk⟩ | hk <;> simp [Builtin.append_, run_underlying ht, run_underlying hk, sizeOf, typeInfo, hi, h1, h2, hsize, storeCells]
  · have hs' : Src P i.size tx x M.length (VCs M) w := by rw [hsize]; exact hs
    have hgrow := fun b hold => run_append_grow_src (P := P) w t tx ty e i _ ht hi hz b 0 0 [] hold x M.length (VCs M) hs' (by omega) (by omega) (growslice_fits (by omega) (by rw [hby]; omega))
    have r1 := hgrow (some g) (run_firstCells_some w.drew i.size 0 g 0 0 [] (by simp) (by simp))
    have r2 := hgrow none (run_firstCells_none w.drew i.size 0 0 0)
    obtain ⟨v', w', hr, h2, h3⟩ := run_append_mine (P := P) w base t tx ty e i _ 3 32 ht hi hz hsize hby rfl (.slice none 0 0) 0 [] (World.ownsRow_nil w base e 3) x M.length (VCs M) hs (by simp only [maxLen]; omega) (by omega) hbase
    refine ⟨v', w', by rw [r1, ← hr, r2], ?_, ?_⟩
    · unfold OwnV
      simpa using h2
    · exact (Below.refl _ w).grown h3 (Nat.le_refl _) (fun k hk => by simp [Value.ownBlock] at hk)
end Go.Proofs.Ytcicekggeampcaa

/-
  The reference's Trim: what the call does.
-/
namespace Go.Proofs.Ytcicekggeampcaa
open Go.RowKit

/-- Where what is left begins. -/
def fstP (L : List Ver) (n : Int) : Nat := match (upto n L).getLast? with
  | none => 0
  | some v => if v.2.2 = true then (upto n L).length else (upto n L).length - 1
theorem trimP_drop {L : List Ver} {n : Int} (h : gd 0 L = true) : trimP L n = L.drop (fstP L n) := by
  cases e : (upto n L).getLast? with
  | none =>
    have hu : upto n L = [] := List.getLast?_eq_none_iff.1 e
    rw [trimP_none h (by rw [hu]; rfl)]
    unfold fstP
    rw [e]
  | some v =>
    unfold fstP
    rw [e]
    cases hd : v.2.2 with
    | true => rw [trimP_dead h e hd]; simp [hd]
    | false => rw [trimP_live h e hd]; simp [hd]
theorem fst_le (L : List Ver) (n : Int) : fstP L n ≤ (upto n L).length ∧ (upto n L).length ≤ fstP L n + 1 := by
  unfold fstP
  cases e : (upto n L).getLast? with
  | none =>
    have hu : upto n L = [] := List.getLast?_eq_none_iff.1 e
    rw [hu]
    simp
  | some v =>
    simp only
    split <;> omega
/-- Is one of those behind place i at most n? -/
theorem later_at {L : List Ver} (hr : Rise L) (n : Int) (i : Nat) : ((L.drop (i + 1)).any fun v => decide (v.1 ≤ n)) = decide (i + 1 < (upto n L).length) := by
  have hul := upto_le n L
  rw [Bool.eq_iff_iff, List.any_eq_true, decide_eq_true_eq]
  constructor
  · rintro ⟨v, hv, hle⟩
    simp only [decide_eq_true_eq] at hle
    obtain ⟨j, hj, rfl⟩ := List.getElem_of_mem hv
    rw [List.length_drop] at hj
    rw [List.getElem_drop] at hle
    have := upto_at (n := n) hr (i := i + 1 + j) (by omega)
    rw [decide_eq_decide] at this
    omega
  · intro h
    have := upto_at (n := n) hr (i := i + 1) (by omega)
    rw [decide_eq_decide] at this
    refine ⟨L[i + 1]'(by omega), ?_, ?_⟩
    · rw [drop_cons (by omega : i + 1 < L.length)]
      exact List.mem_cons_self
    · simp only [decide_eq_true_eq]
      omega
theorem take_drop_snoc {L : List Ver} {i : Nat} (f : Nat) (h : i < L.length) : (L.take (i + 1)).drop f = (L.take i).drop f ++ if f ≤ i then [L[i]] else [] := by
  rw [take_snoc h, List.drop_append, List.length_take, Nat.min_eq_left (by omega)]
  congr 1
  by_cases hf : f ≤ i
  · rw [if_pos hf, show f - i = 0 by omega]
    rfl
  · rw [if_neg hf, List.drop_of_length_le (by simp; omega)]
/-- The one that is left first: is it dead, and at most n? -/
theorem first_at {L : List Ver} (h : gd 0 L = true) {n : Int} {i : Nat} (hi : i < L.length) (hl : (upto n L).length ≤ i + 1) : (((L.take i).drop (fstP L n)).isEmpty && (L[i].2.2 && decide (L[i].1 ≤ n))) = decide (i < fstP L n) := by
  have hr := (gd_rise h).1
  have ha := upto_at (n := n) hr hi
  rw [decide_eq_decide] at ha
  obtain ⟨hf1, hf2⟩ := fst_le L n
  by_cases hu : (upto n L).length ≤ i
  · have e : decide (L[i].1 ≤ n) = false := by simp; omega
    rw [e]
    simp
    omega
  · have e : (upto n L).length = i + 1 := by omega
    have hlast := upto_last' (n := n) hr (by omega)
    rw [e, Nat.add_sub_cancel, List.getElem?_eq_getElem hi] at hlast
    have e1 : decide (L[i].1 ≤ n) = true := by simp; omega
    have e2 : (L.take i).drop (fstP L n) = [] := List.drop_of_length_le (by rw [List.length_take]; omega)
    rw [e1, e2]
    unfold fstP
    rw [hlast, e]
    cases hd : L[i].2.2 <;> simp [hd]

end Go.Proofs.Ytcicekggeampcaa

/-
  The law's lives: what the call does.
-/
namespace Go.Proofs.Ytcicekggeampcaa
open Go.RowKit

/-- The document's example. -/
def exL : List Ver := [(1, ⟨#[97]⟩, false), (3, ⟨#[]⟩, true), (5, ⟨#[98]⟩, false)]
theorem ex_get2 : getP exL 2 = ((1, ⟨#[97]⟩, false), true) := by decide +kernel
theorem ex_get4 : getP exL 4 = (zv, false) := by decide +kernel
theorem ex_trim : trimP exL 4 = [(5, ⟨#[98]⟩, false)] := by decide +kernel
end Go.Proofs.Ytcicekggeampcaa

/-
  What follows, plain: trimmed versions tell the same; what is put is there; cut versions tell what they told.
-/
namespace Go.Proofs.Ytcicekggeampcaa
theorem gd_mono : ∀ {L : List Ver} {a b : Int}, b ≤ a → gd a L = true → gd b L = true
  | [], _, _, _, _ => rfl
  | v :: L, a, b, hab, h => by
    rw [gd, Bool.and_eq_true] at h ⊢
    refine ⟨?_, h.2⟩
    have h1 := h.1
    unfold fol at h1 ⊢
    simp only [Bool.and_eq_true, decide_eq_true_eq] at h1 ⊢
    exact ⟨by omega, h1.2⟩
theorem gd_drop : ∀ {L : List Ver} {a : Int} (k : Nat), gd a L = true → gd a (L.drop k) = true
  | [], _, _, _ => by simp [gd]
  | v :: L, a, 0, h => h
  | v :: L, a, k + 1, h => by
    have hr := (gd_rise h).2 v (by simp)
    rw [gd, Bool.and_eq_true] at h
    rw [List.drop_succ_cons]
    exact gd_mono (Int.le_of_lt hr) (gd_drop k h.2)
theorem gd_take : ∀ {L : List Ver} {a : Int} (k : Nat), gd a L = true → gd a (L.take k) = true
  | [], _, _, _ => by simp [gd]
  | v :: L, a, 0, h => rfl
  | v :: L, a, k + 1, h => by
    rw [gd, Bool.and_eq_true] at h
    rw [List.take_succ_cons, gd, Bool.and_eq_true]
    exact ⟨h.1, gd_take k h.2⟩
theorem gd_snoc (v : Ver) : ∀ (L : List Ver) (a : Int), gd a (L ++ [v]) = (gd a L && fol v ((L.getLast?.map (·.1)).getD a))
  | [], a => by simp [gd]
  | [u], a => by simp [gd]
  | u :: t :: L, a => by
    have ih := gd_snoc v (t :: L) u.1
    have e1 : gd a (u :: (t :: L)) = (fol u a && gd u.1 (t :: L)) := rfl
    have e2 : gd a (u :: (t :: L) ++ [v]) = (fol u a && gd u.1 (t :: L ++ [v])) := rfl
    rw [e1, e2, ih, Bool.and_assoc, List.getLast?_cons_cons]
    cases e : (t :: L).getLast? with
    | none => simp at e
    | some y => rfl
theorem upto_append (n : Int) (A B : List Ver) : upto n (A ++ B) = upto n A ++ upto n B := List.filter_append _ _
theorem past_append (n : Int) (A B : List Ver) : past n (A ++ B) = past n A ++ past n B := List.filter_append _ _
theorem upto_all {n : Int} {A : List Ver} (h : ∀ v ∈ A, v.1 ≤ n) : upto n A = A := by
  unfold upto
  rw [List.filter_eq_self]
  intro v hv
  simpa using h v hv
theorem upto_no {n : Int} {A : List Ver} (h : ∀ v ∈ A, n < v.1) : upto n A = [] := by
  unfold upto
  rw [List.filter_eq_nil_iff]
  intro v hv
  have := h v hv
  simp
  omega
theorem past_all {n : Int} {A : List Ver} (h : ∀ v ∈ A, n < v.1) : past n A = A := by
  unfold past
  rw [List.filter_eq_self]
  intro v hv
  simpa using h v hv
theorem past_no {n : Int} {A : List Ver} (h : ∀ v ∈ A, v.1 ≤ n) : past n A = [] := by
  unfold past
  rw [List.filter_eq_nil_iff]
  intro v hv
  have := h v hv
  simp
  omega
theorem mem_upto {n : Int} {A : List Ver} {v : Ver} (h : v ∈ upto n A) : v.1 ≤ n := by
  unfold upto at h
  rw [List.mem_filter] at h
  simpa using h.2
theorem mem_past {n : Int} {A : List Ver} {v : Ver} (h : v ∈ past n A) : n < v.1 := by
  unfold past at h
  rw [List.mem_filter] at h
  simpa using h.2
theorem mem_live {M : List Ver} {v : Ver} (h : v ∈ liveL M) : v ∈ M := by
  unfold liveL at h
  cases e : M.getLast? with
  | none => rw [e] at h; simp at h
  | some u =>
    rw [e] at h
    simp only at h
    split at h
    · simp at h
    · rw [List.mem_singleton] at h
      subst h
      exact List.mem_of_getLast? e
theorem live_live (M : List Ver) : liveL (liveL M) = liveL M := by
  unfold liveL
  cases e : M.getLast? with
  | none => rfl
  | some u =>
    cases hd : u.2.2 <;> simp [hd]
theorem trimP_eq {L : List Ver} (h : gd 0 L = true) (n : Int) : trimP L n = liveL (upto n L) ++ past n L := by unfold trimP; rw [if_pos h]
theorem cutP_eq {L : List Ver} (h : gd 0 L = true) (n : Int) : cutP L n = upto n L := by unfold cutP; rw [if_pos h]
theorem trim_good {L : List Ver} (h : gd 0 L = true) (n : Int) : gd 0 (trimP L n) = true := by rw [trimP_drop h]; exact gd_drop _ h
theorem trim_upto {L : List Ver} (h : gd 0 L = true) {n m : Int} (hm : n ≤ m) : upto m (trimP L n) = liveL (upto n L) ++ upto m (past n L) ∧ upto m L = upto n L ++ upto m (past n L) := by
  have hr := (gd_rise h).1
  constructor
  · unfold trimP
    rw [if_pos h, upto_append, upto_all (A := liveL (upto n L)) (fun v hv => Int.le_trans (mem_upto (mem_live hv)) hm)]
  · conv => lhs; rw [split_rise n hr]
    rw [upto_append, upto_all (A := upto n L) (fun v hv => Int.le_trans (mem_upto hv) hm)]
theorem trim_get {L : List Ver} (h : gd 0 L = true) {n m : Int} (hm : n ≤ m) : getP (trimP L n) m = getP L m := by
  obtain ⟨e1, e2⟩ := trim_upto h hm
  unfold getP
  rw [if_pos h, if_pos (trim_good h n), e1, e2]
  cases e : (upto m (past n L)).getLast? with
  | some v => rw [List.getLast?_append, List.getLast?_append, e]; rfl
  | none =>
    rw [List.getLast?_append, List.getLast?_append, e]
    simp only [Option.none_or]
    unfold liveL
    cases e4 : (upto n L).getLast? with
    | none => rfl
    | some v => cases hd : v.2.2 <;> simp [hd]
theorem trim_past {L : List Ver} (h : gd 0 L = true) {n m : Int} (hm : n ≤ m) : past m (trimP L n) = past m L := by
  have hr := (gd_rise h).1
  conv => rhs; rw [split_rise n hr]
  unfold trimP
  rw [if_pos h, past_append, past_append, past_no (A := liveL (upto n L)) (fun v hv => Int.le_trans (mem_upto (mem_live hv)) hm), past_no (A := upto n L) (fun v hv => Int.le_trans (mem_upto hv) hm)]
theorem trim_since {L : List Ver} (h : gd 0 L = true) {n m : Int} (hm : n ≤ m) : sinceP (trimP L n) m = sinceP L m := by
  unfold sinceP
  rw [if_pos h, if_pos (trim_good h n), trim_past h hm]
theorem trim_trim {L : List Ver} (h : gd 0 L = true) (n : Int) : trimP (trimP L n) n = trimP L n := by
  have e1 : upto n (trimP L n) = liveL (upto n L) := by
    rw [(trim_upto h (Int.le_refl n)).1, upto_no (A := past n L) (fun v hv => mem_past hv), List.append_nil]
  have e2 := trim_past h (Int.le_refl n)
  rw [trimP_eq (trim_good h n), e1, e2, live_live, trimP_eq h]
theorem cut_good {L : List Ver} (h : gd 0 L = true) (n : Int) : gd 0 (cutP L n) = true := by
  have e : cutP L n = L.take (upto n L).length := by unfold cutP; rw [if_pos h, take_upto (gd_rise h).1]
  rw [e]
  exact gd_take _ h
theorem cut_get {L : List Ver} (h : gd 0 L = true) {n m : Int} (hm : m ≤ n) : getP (cutP L n) m = getP L m := by
  have hg := cut_good h n
  have e : upto m (cutP L n) = upto m L := by
    unfold cutP
    rw [if_pos h]
    conv => rhs; rw [split_rise n (gd_rise h).1]
    rw [upto_append, upto_no (A := past n L) (fun v hv => Int.lt_of_le_of_lt hm (mem_past hv)), List.append_nil]
  unfold getP
  rw [if_pos h, if_pos hg, e]
theorem cut_last {L : List Ver} (h : gd 0 L = true) {n : Int} (hp : 0 < (cutP L n).length) : lst (cutP L n) ≤ n := by
  rw [lst_good (cut_good h n) hp]
  have hm : ∀ v ∈ cutP L n, v.1 ≤ n := fun v hv => by rw [cutP_eq h] at hv; exact mem_upto hv
  exact hm _ (List.getElem_mem _)
theorem cut_since {L : List Ver} (h : gd 0 L = true) (n : Int) : sinceP (cutP L n) n = 0 := by
  unfold sinceP
  rw [if_pos (cut_good h n)]
  unfold cutP
  rw [if_pos h, past_no (fun v hv => mem_upto hv)]
  rfl
theorem cut_len {L : List Ver} (h : gd 0 L = true) (n : Int) : (cutP L n).length + sinceP L n = L.length := by
  have := congrArg List.length (split_rise n (gd_rise h).1)
  rw [List.length_append] at this
  unfold sinceP cutP
  rw [if_pos h, if_pos h]
  omega
theorem put_facts {L : List Ver} {v : Ver} (h : putOk L v = true) : gd 0 L = true ∧ gd 0 (L ++ [v]) = true ∧ (∀ u ∈ L, u.1 ≤ lst L) ∧ lst L < v.1 := by
  unfold putOk at h
  rw [Bool.and_eq_true] at h
  obtain ⟨hg, hf⟩ := h
  have hl : lst L = (L.getLast?.map (·.1)).getD 0 := by unfold lst; rw [if_pos hg]
  have h2 : gd 0 (L ++ [v]) = true := by rw [gd_snoc, hg, ← hl, hf]; rfl
  have hlt : lst L < v.1 := by
    unfold fol at hf
    simp only [Bool.and_eq_true, decide_eq_true_eq] at hf
    exact hf.1
  refine ⟨hg, h2, fun u hu => ?_, hlt⟩
  have hp : 0 < L.length := List.length_pos_of_mem hu
  rw [lst_good hg hp]
  obtain ⟨i, hi, rfl⟩ := List.getElem_of_mem hu
  have hr : L.Pairwise fun a b => a.1 < b.1 := (gd_rise hg).1
  rcases Nat.lt_or_ge i (L.length - 1) with h | h
  · exact Int.le_of_lt ((List.pairwise_iff_getElem.1 hr) i (L.length - 1) hi (by omega) h)
  · have : i = L.length - 1 := by omega
    subst this
    exact Int.le_refl _
theorem put_get {L : List Ver} {v : Ver} (h : putOk L v = true) : getP (L ++ [v]) v.1 = if v.2.2 = true then (zv, false) else (v, true) := by
  obtain ⟨hg, h2, h3, h4⟩ := put_facts h
  refine getP_some h2 ?_
  rw [upto_all (fun u hu => ?_)]
  · simp
  · rcases List.mem_append.1 hu with hu | hu
    · have := h3 u hu
      omega
    · rw [List.mem_singleton] at hu
      subst hu
      exact Int.le_refl _
theorem put_old {L : List Ver} {v : Ver} (h : putOk L v = true) {n : Int} (hn : n < v.1) : getP (L ++ [v]) n = getP L n := by
  obtain ⟨hg, h2, h3, h4⟩ := put_facts h
  unfold getP
  rw [if_pos h2, if_pos hg, upto_append, upto_no (A := [v]) (fun u hu => by rw [List.mem_singleton] at hu; subst hu; exact hn), List.append_nil]
theorem put_last {L : List Ver} {v : Ver} (h : putOk L v = true) : lst (L ++ [v]) = v.1 := by
  obtain ⟨hg, h2, h3, h4⟩ := put_facts h
  unfold lst
  rw [if_pos h2]
  simp
theorem put_cut {L : List Ver} {v : Ver} (h : putOk L v = true) : cutP (L ++ [v]) (lst L) = L := by
  obtain ⟨hg, h2, h3, h4⟩ := put_facts h
  unfold cutP
  rw [if_pos h2, upto_append, upto_all h3, upto_no (A := [v]) (fun u hu => by rw [List.mem_singleton] at hu; subst hu; exact h4), List.append_nil]
end Go.Proofs.Ytcicekggeampcaa
