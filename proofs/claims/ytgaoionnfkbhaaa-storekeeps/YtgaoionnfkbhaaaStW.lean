/-
  A region that draws its order, in which one operation writes and yields a value that is not known ahead, and the last one stores.
-/
import Derived.Test.YtgaoionnfkbhaaaGT
namespace Go.Proofs.Ytgaoionnfkbhaaa
open Go.RowKit
/-- Does operation z wait for all others? -/
def allB (ops : Array Oper) (z : Nat) : Bool := (List.range ops.size).all fun j => j == z || reachB ops ops.size z j
/-- What an operation finds. -/
def Finds (ops : Array Oper) (V : Nat → Value) (o : Oper) (a : Act) : Prop := ∀ j d, depB ops o.after j d = true → a.eval (.tmp d) = V j
structure P2 (ops : Array Oper) (V : Nat → Value → Value) (A : World → Prop) (B C : Value → World → Prop) (k z : Nat) (l : Nat → Bool) (a : Act) (w : World) (x : Value) : Prop where
  vals : ∀ (i : Nat) (o : Oper) (d : Nat), ops[i]? = some o → l i = true → o.dst = some d → a.eval (.tmp d) = V i x
  all : l z = true → ∀ j, j < ops.size → l j = true
  pre : l k = false → A w
  mid : l k = true → l z = false → B x w
  post : l z = true → C x w
  cl : Closed ops l
abbrev Owes2 (P : Program) (ops : Array Oper) (V : Nat → Value → Value) (A : World → Prop) (B C : Value → World → Prop) (k z : Nat) (a0 : Act) (Q : Exit → Act → World → Prop) (i : Nat) (o : Oper) : Prop :=
  o.guard = none ∧ (if i = k then ∀ x a w', Kept ops a0 a → Finds ops (fun j => V j x) o a → A w' → o.wp P a w' (fun a' w'' => ∃ y, a' = a.put o.dst y ∧ B y w'') Q
    else if i = z then ∀ x a w', Kept ops a0 a → Finds ops (fun j => V j x) o a → B x w' → o.wp P a w' (fun a' w'' => a' = a.put o.dst (V z x) ∧ C x w'') Q
    else ∀ x a w', Kept ops a0 a → Finds ops (fun j => V j x) o a → (A w' ∨ B x w') → (execOp a.eval o).run P w' = .ok (.value (V i x)) w')
theorem wp_region_two {P : Program} {id : Nat} {ops : Array Oper} {Q : Exit → Act → World → Prop} {a0 : Act} {w : World} (hm : P.follows .mixedOrders = true) (V : Nat → Value → Value) (A : World → Prop) (B C : Value → World → Prop) (k z : Nat)
    (n : Nat) (hn : a0.tmps.size = n) (hf : formB ops n = true) (hz : allB ops z = true) (hkz : k ≠ z) (hks : k < ops.size) (hzs : z < ops.size) (h0 : ∀ w', w'.heap = w.heap → Gr w w' → A w')
    (hVk : ∀ x, V k x = x) (hV : ∀ i x y, i < ops.size → i ≠ k → reachB ops ops.size i k = false → V i x = V i y)
    (hstep : AllFrom (Owes2 P ops V A B C k z a0 Q) 0 ops.toList)
    (hQ : ∀ a w' x, a.tmps.size = a0.tmps.size → a.defers = a0.defers → Kept ops a0 a → (∀ (i : Nat) (o : Oper) (d : Nat), ops[i]? = some o → o.dst = some d → a.eval (.tmp d) = V i x) → C x w' → Q .normal a w') :
    (Code.region id ops true).wp P Q a0 w := by
  have hzw : ∀ (o : Oper) (l : Nat → Bool), Closed ops l → ops[z]? = some o → waitsB o l = true → ∀ j, j < ops.size → j ≠ z → l j = true := by
    intro o l hc ho hw j hj hne
    unfold allB at hz
    have := List.all_eq_true.1 hz j (by simpa using hj)
    simp only [Bool.or_eq_true, beq_iff_eq] at this
    rcases this with h | h
    · exact absurd h hne
    · exact reach_done hc _ z j o ho hw h
  refine wp_region_J hm (fun l a w => ∃ x, P2 ops V A B C k z l a w x) n hn hf ?_ ?_ ?_
  · intro w' hh hg
    exact ⟨undef, fun i o d _ h => by simp at h, fun h => by simp at h, fun _ => h0 w' hh hg, fun h => by simp at h, fun h => by simp at h, fun i o _ h => by simp at h⟩
  · rintro i o ho l a w1 ⟨x, hJ⟩ ht hd hkp hli hw
    have hs := AllFrom.at hstep (i := i) (o := o) (by simpa using ho)
    rw [Nat.zero_add] at hs
    have hi : i < ops.size := (Array.getElem?_eq_some_iff.1 ho).1
    have hlz : l z = false := by
      cases h : l z with
      | false => rfl
      | true => rw [hJ.all h i hi] at hli; cases hli
    have hfinds : Finds ops (fun j => V j x) o a := by
      intro j d hb
      unfold depB at hb
      rw [Bool.and_eq_true] at hb
      have hlj := waitsB_at hw j hb.1
      cases hoj : ops[j]? with
      | none => rw [hoj] at hb; simp at hb
      | some oj =>
        rw [hoj] at hb
        exact hJ.vals j oj d hoj hlj (by simpa using hb.2)
    have hcl := hJ.cl.step ho hw
    have nvals : ∀ (y v : Value), v = V i y → (∀ j oj, ops[j]? = some oj → l j = true → V j x = V j y) → ∀ (j : Nat) (oj : Oper) (d : Nat), ops[j]? = some oj → (l j || j == i) = true → oj.dst = some d → (a.put o.dst v).eval (.tmp d) = V j y := by
      intro y v hv hsame j oj d hoj hl hdj
      by_cases hji : j = i
      · subst hji
        rw [ho] at hoj
        simp only [Option.some.injEq] at hoj
        subst hoj
        rw [hdj, eval_put_same (by rw [ht]; exact ((formB_spec hf ho).2 d hdj).1), hv]
      · rw [eval_put_other (fun e => hji (formB_ne hf hoj ho hdj e))]
        have hlj : l j = true := by simpa [hji] using hl
        rw [hJ.vals j oj d hoj hlj hdj]
        exact hsame j oj hoj hlj
    refine ⟨hs.1, ?_⟩
    by_cases hik : i = k
    · have h2 := hs.2
      rw [if_pos hik] at h2
      subst hik
      refine Oper.wp_mono ?_ (h2 x a w1 hkp hfinds (hJ.pre hli))
      rintro a' w2 ⟨y, rfl, hB⟩
      refine ⟨y, rfl, y, nvals y y (hVk y).symm (fun j oj hoj hlj => ?_), fun h => ?_, fun h => by simp at h, fun _ _ => hB, fun h => ?_, hcl⟩
      · have hj : j < ops.size := (Array.getElem?_eq_some_iff.1 hoj).1
        refine hV j x y hj (fun e => by rw [e, hli] at hlj; cases hlj) ?_
        cases hr : reachB ops ops.size j i with
        | false => rfl
        | true => rw [reach_done hJ.cl _ j i oj hoj (hJ.cl j oj hoj hlj) hr] at hli; cases hli
      · have hzi : (z == i) = false := by simp; exact fun e => hkz e.symm
        rw [hlz, hzi] at h
        cases h
      · have hzi : (z == i) = false := by simp; exact fun e => hkz e.symm
        rw [hlz, hzi] at h
        cases h
    · by_cases hiz : i = z
      · have h2 := hs.2
        rw [if_neg hik, if_pos hiz] at h2
        subst hiz
        have hall := hzw o l hJ.cl ho hw
        have hlk := hall k hks hkz
        refine Oper.wp_mono ?_ (h2 x a w1 hkp hfinds (hJ.mid hlk hlz))
        rintro a' w2 ⟨rfl, hC⟩
        refine ⟨_, rfl, x, nvals x _ rfl (fun _ _ _ _ => rfl), fun _ j hj => ?_, fun h => ?_, fun _ h => by simp at h, fun _ => hC, hcl⟩
        · by_cases hji : j = i
          · simp [hji]
          · simp [hall j hj hji]
        · rw [hlk] at h
          cases h
      · have h2 := hs.2
        rw [if_neg hik, if_neg hiz] at h2
        have hki : (k == i) = false := by simp; exact fun e => hik e.symm
        have hzi : (z == i) = false := by simp; exact fun e => hiz e.symm
        have hr := h2 x a w1 hkp hfinds (by
          cases hlk : l k with
          | false => exact .inl (hJ.pre hlk)
          | true => exact .inr (hJ.mid hlk hlz))
        unfold Oper.wp
        rw [hr, Oper.upon_value]
        refine ⟨_, rfl, x, nvals x _ rfl (fun _ _ _ _ => rfl), fun h => ?_, fun h => hJ.pre ?_, fun h1 h2 => hJ.mid ?_ hlz, fun h => ?_, hcl⟩
        · rw [hlz, hzi] at h; cases h
        · rw [hki, Bool.or_false] at h; exact h
        · rw [hki, Bool.or_false] at h1; exact h1
        · rw [hlz, hzi] at h; cases h
  · rintro l a w1 hall ⟨x, hJ⟩ ht hd hkp
    exact hQ a w1 x (ht.trans hn.symm) hd hkp (fun i o d ho hdst => hJ.vals i o d ho (hall i (Array.getElem?_eq_some_iff.1 ho).1) hdst) (hJ.post (hall z hzs))
#print axioms wp_region_two
/-- append onto a row of the call's own: where what comes lies. -/
theorem run_append_at {P : Program} (w : World) (base : Nat) (t tx ty e : TypeId) (i : TypeInfo) (z : Value) (size bytes : Nat) (ht : P.underlying t = some (.slice e)) (hi : P.info? e = some i) (hz : i.zero = some z)
    (hsize : i.size = size) (hby : i.bytes = bytes) (hzs : z.cells.size = size)
    (v : Value) (n : Nat) (xs : List Value) (hown : w.ownsRow base e size v n xs)
    (x : Value) (m : Nat) (news : List Value) (hs : Src P size tx x m news w)
    (h63 : n + m ≤ maxLen) (hbytes : (n + m) * bytes ≤ 140737488355328) (hbase : base ≤ w.heap.size) :
    ∃ v' w', (Builtin.append_ #[t, tx] ty #[v, x]).run P w = .ok v' w' ∧ w'.ownsRow base e size v' (n + m) (xs ++ news) ∧ w.grownBy w' v.ownBlock ∧ ∀ b, v'.ownBlock = some b → v.ownBlock = some b ∨ b = w.heap.size := by
  subst hsize
  subst hby
  have hl := hs.newsLen
  have hsmall : n + m ≤ 9223372036854775807 := by simp only [maxLen] at h63; omega
  have hlen : (xs ++ news).length = (n + m) * i.size := by rw [List.length_append, hown.1, hl, Nat.add_mul]
  have grown : ∀ (old : Nat), old < n + m → ∀ (row : Option Nat),
      (w.drew.alloc (.cells ((xs ++ news).toArray ++ Builtin.zeroCells z.cells (grownCap w (n + m) old e - (n + m))) e)).ownsRow base e i.size
        (.slice (some ⟨w.heap.size, 0, none⟩) (n + m) (grownCap w (n + m) old e)) (n + m) (xs ++ news) ∧
      w.grownBy (w.drew.alloc (.cells ((xs ++ news).toArray ++ Builtin.zeroCells z.cells (grownCap w (n + m) old e - (n + m))) e)) row := by
    intro old ho row
    have hge := grownCap_ge w (n + m) old e
    have hcm : grownCap w (n + m) old e ≤ maxLen := grownCap_le_maxLen w (n + m) old e h63
    refine ⟨⟨hlen, .inr ⟨w.heap.size, _, _, rfl, hbase, heap_alloc_new w.drew _, hge, hcm, ?_, ?_⟩⟩, ⟨rfl, rfl, rfl, by simp, fun k hk _ => Below.heap_alloc w.drew _ k hk⟩⟩
    · simp only [Array.size_append, List.size_toArray, size_zeroCells, hzs, hlen, ← Nat.add_mul]
      congr 1
      omega
    · simp only [Array.toList_append]
      rw [← hlen]
      exact List.take_left
  rcases hown.2 with ⟨rfl, rfl⟩ | ⟨g, cap, cur, rfl, hbg, hg, hnc, hcm, hcs, htake⟩
  · have hx : xs = [] := List.eq_nil_of_length_eq_zero (by simpa using hown.1)
    subst hx
    by_cases hm : m = 0
    · subst hm
      have hn : news = [] := List.eq_nil_of_length_eq_zero (by simpa using hl)
      subst hn
      refine ⟨.slice none 0 0, w, ?_, World.ownsRow_nil w base e i.size, ⟨rfl, rfl, rfl, Nat.le_refl _, fun _ _ _ => rfl⟩, fun _ h => .inl h⟩
      rcases hs.kind with ⟨e', hk⟩ | hk <;> simp [Builtin.append_, run_underlying ht, run_underlying hk, sizeOf, typeInfo, hi, hs.len, hs.cells]
    · have hr := run_append_grow_src (P := P) w t tx ty e i z ht hi hz none 0 0 [] (run_firstCells_none w.drew i.size 0 0 0) x m news hs (by omega) (by omega) (growslice_fits (by omega) hbytes)
      have hgr := grown 0 (by omega) (Value.ownBlock (.slice none 0 0))
      exact ⟨_, _, hr, hgr.1, hgr.2, fun b hb => .inr (by simpa [Value.ownBlock] using hb.symm)⟩
  · by_cases hroom : n + m ≤ cap
    · have hfit : n * i.size + news.length ≤ cur.size := by rw [hl, hcs, ← Nat.add_mul]; exact Nat.mul_le_mul_right _ hroom
      have hst := run_storeCells_at P g (n * i.size) e news 0 cur w hg (by simpa using hfit) hs.one
      simp only [Nat.add_zero] at hst
      have hr : (Builtin.append_ #[t, tx] ty #[.slice (some ⟨g, 0, none⟩) n cap, x]).run P w =
          .ok (.slice (some ⟨g, 0, none⟩) (n + m) cap) (w.setRow g (cur.toList.take (n * i.size) ++ news ++ cur.toList.drop (n * i.size + news.length)).toArray) := by
        rcases hs.kind with ⟨e', hk⟩ | hk <;> simp [Builtin.append_, run_underlying ht, run_underlying hk, sizeOf, typeInfo, hi, hs.len, hroom, hs.cells, Addr.add_lit, hst]
      refine ⟨_, _, hr, ⟨hlen, .inr ⟨g, cap, _, rfl, hbg, setRow_heap w g cur _ e _ hg, hroom, hcm, ?_, ?_⟩⟩, ⟨rfl, rfl, rfl, by simp, fun k _ hk => setRow_other w g k _ (fun e => hk (by simp [Value.ownBlock, e]))⟩, fun _ h => .inl h⟩
      · simp only [List.size_toArray, List.length_append, List.length_take, List.length_drop, Array.length_toList]
        omega
      · rw [htake, ← hlen]
        exact List.take_left
    · have holds : ∀ j u, xs[j]? = some u → w.drew.cell? ((⟨g, 0, none⟩ : Addr).add j) = some u := fun j u hj => by simpa using hown.cells (g := g) rfl j u hj
      have hr := run_append_grow_src (P := P) w t tx ty e i z ht hi hz (some ⟨g, 0, none⟩) n cap xs (run_firstCells_some w.drew i.size n ⟨g, 0, none⟩ n cap xs hown.1 holds) x m news hs (by omega) (by omega) (growslice_fits (by omega) hbytes)
      have hgr := grown cap (by omega) (Value.ownBlock (.slice (some ⟨g, 0, none⟩) n cap))
      exact ⟨_, _, hr, hgr.1, hgr.2, fun b hb => .inr (by simpa [Value.ownBlock] using hb.symm)⟩
end Go.Proofs.Ytgaoionnfkbhaaa
