/-
  Texts that ride together: StW StK StA StJ StZ.
-/
import Derived.Test.YtcicekggeampcaaGreatGG
import Derived.Test.YtcicekggeampcaaGreatGSa
import Derived.Test.YtcicekggeampcaaGreatGQ
import Derived.Shelf.Abstract
/-
  A region that draws its order, in which one operation writes and yields a value that is not known ahead, and the last one stores.
-/
namespace Go.Proofs.YtcicekggeampcaaGreat
open Go.RowKit
/-- Does operation z wait for all others? -/
def allB (ops : Array Oper) (z : Nat) : Bool := (List.range ops.size).all fun j => j == z || reachB ops ops.size z j
/-- What an operation finds. -/
def Finds (ops : Array Oper) (V : Nat → Value) (o : Oper) (a : Act) : Prop := ∀ j d, depB ops o.after j d = true → a.eval (.tmp d) = V j
structure P2 (ops : Array Oper) (V : Nat → Value → Value) (A : World → Prop) (B C : Value → World → Prop) (k z : Nat) (l : Nat → Bool) (a : Act) (w : World) (x : Value) : Prop where
  vals : ∀ (i : Nat) (o : Oper) (d : Nat), ops[i]? = some o → l i = true → o.dst = some d → a.eval (.tmp d) = V i x
  all : l z = true → ∀ j, j < ops.size → l j = true
  pre : l k = false → A w
  mid : l k = true → l z = false → B x w
  post : l z = true → C x w
  cl : Closed ops l
abbrev Owes2 (P : Program) (ops : Array Oper) (V : Nat → Value → Value) (A : World → Prop) (B C : Value → World → Prop) (k z : Nat) (a0 : Act) (Q : Exit → Act → World → Prop) (i : Nat) (o : Oper) : Prop :=
  o.guard = none ∧ (if i = k then ∀ x a w', Kept ops a0 a → Finds ops (fun j => V j x) o a → A w' → o.wp P a w' (fun a' w'' => ∃ y, a' = a.put o.dst y ∧ B y w'') Q
    else if i = z then ∀ x a w', Kept ops a0 a → Finds ops (fun j => V j x) o a → B x w' → o.wp P a w' (fun a' w'' => a' = a.put o.dst (V z x) ∧ C x w'') Q
    else ∀ x a w', Kept ops a0 a → Finds ops (fun j => V j x) o a → (A w' ∨ B x w') → (execOp a.eval o).run P w' = .ok (.value (V i x)) w')
theorem wp_region_two {P : Program} {id : Nat} {ops : Array Oper} {Q : Exit → Act → World → Prop} {a0 : Act} {w : World} (hm : P.follows .mixedOrders = true) (V : Nat → Value → Value) (A : World → Prop) (B C : Value → World → Prop) (k z : Nat)
    (n : Nat) (hn : a0.tmps.size = n) (hf : formB ops n = true) (hz : allB ops z = true) (hkz : k ≠ z) (hks : k < ops.size) (hzs : z < ops.size) (h0 : ∀ w', w'.heap = w.heap → Gr w w' → A w')
    (hVk : ∀ x, V k x = x) (hV : ∀ i x y, i < ops.size → i ≠ k → reachB ops ops.size i k = false → V i x = V i y)
    (hstep : AllFrom (Owes2 P ops V A B C k z a0 Q) 0 ops.toList)
    (hQ : ∀ a w' x, a.tmps.size = a0.tmps.size → a.defers = a0.defers → Kept ops a0 a → (∀ (i : Nat) (o : Oper) (d : Nat), ops[i]? = some o → o.dst = some d → a.eval (.tmp d) = V i x) → C x w' → Q .normal a w') :
    (Code.region id ops true).wp P Q a0 w := by
  have hzw : ∀ (o : Oper) (l : Nat → Bool), Closed ops l → ops[z]? = some o → waitsB o l = true → ∀ j, j < ops.size → j ≠ z → l j = true := by
    intro o l hc ho hw j hj hne
    unfold allB at hz
    have := List.all_eq_true.1 hz j (by simpa using hj)
    simp only [Bool.or_eq_true, beq_iff_eq] at this
    rcases this with h | h
    · exact absurd h hne
    · exact reach_done hc _ z j o ho hw h
  refine wp_region_J hm (fun l a w => ∃ x, P2 ops V A B C k z l a w x) n hn hf ?_ ?_ ?_
  · intro w' hh hg
    exact ⟨undef, fun i o d _ h => by simp at h, fun h => by simp at h, fun _ => h0 w' hh hg, fun h => by simp at h, fun h => by simp at h, fun i o _ h => by simp at h⟩
  · rintro i o ho l a w1 ⟨x, hJ⟩ ht hd hkp hli hw
    have hs := AllFrom.at hstep (i := i) (o := o) (by simpa using ho)
    rw [Nat.zero_add] at hs
    have hi : i < ops.size := (Array.getElem?_eq_some_iff.1 ho).1
    have hlz : l z = false := by
      cases h : l z with
      | false => rfl
      | true => rw [hJ.all h i hi] at hli; cases hli
    have hfinds : Finds ops (fun j => V j x) o a := by
      intro j d hb
      unfold depB at hb
      rw [Bool.and_eq_true] at hb
      have hlj := waitsB_at hw j hb.1
      cases hoj : ops[j]? with
      | none => rw [hoj] at hb; simp at hb
      | some oj =>
        rw [hoj] at hb
        exact hJ.vals j oj d hoj hlj (by simpa using hb.2)
    have hcl := hJ.cl.step ho hw
    have nvals : ∀ (y v : Value), v = V i y → (∀ j oj, ops[j]? = some oj → l j = true → V j x = V j y) → ∀ (j : Nat) (oj : Oper) (d : Nat), ops[j]? = some oj → (l j || j == i) = true → oj.dst = some d → (a.put o.dst v).eval (.tmp d) = V j y := by
      intro y v hv hsame j oj d hoj hl hdj
      by_cases hji : j = i
      · subst hji
        rw [ho] at hoj
        simp only [Option.some.injEq] at hoj
        subst hoj
        rw [hdj, eval_put_same (by rw [ht]; exact ((formB_spec hf ho).2 d hdj).1), hv]
      · rw [eval_put_other (fun e => hji (formB_ne hf hoj ho hdj e))]
        have hlj : l j = true := by simpa [hji] using hl
        rw [hJ.vals j oj d hoj hlj hdj]
        exact hsame j oj hoj hlj
    refine ⟨hs.1, ?_⟩
    by_cases hik : i = k
    · have h2 := hs.2
      rw [if_pos hik] at h2
      subst hik
      refine Oper.wp_mono ?_ (h2 x a w1 hkp hfinds (hJ.pre hli))
      rintro a' w2 ⟨y, rfl, hB⟩
      refine ⟨y, rfl, y, nvals y y (hVk y).symm (fun j oj hoj hlj => ?_), fun h => ?_, fun h => by simp at h, fun _ _ => hB, fun h => ?_, hcl⟩
      · have hj : j < ops.size := (Array.getElem?_eq_some_iff.1 hoj).1
        refine hV j x y hj (fun e => by rw [e, hli] at hlj; cases hlj) ?_
        cases hr : reachB ops ops.size j i with
        | false => rfl
        | true => rw [reach_done hJ.cl _ j i oj hoj (hJ.cl j oj hoj hlj) hr] at hli; cases hli
      · have hzi : (z == i) = false := by simp; exact fun e => hkz e.symm
        rw [hlz, hzi] at h
        cases h
      · have hzi : (z == i) = false := by simp; exact fun e => hkz e.symm
        rw [hlz, hzi] at h
        cases h
    · by_cases hiz : i = z
      · have h2 := hs.2
        rw [if_neg hik, if_pos hiz] at h2
        subst hiz
        have hall := hzw o l hJ.cl ho hw
        have hlk := hall k hks hkz
        refine Oper.wp_mono ?_ (h2 x a w1 hkp hfinds (hJ.mid hlk hlz))
        rintro a' w2 ⟨rfl, hC⟩
        refine ⟨_, rfl, x, nvals x _ rfl (fun _ _ _ _ => rfl), fun _ j hj => ?_, fun h => ?_, fun _ h => by simp at h, fun _ => hC, hcl⟩
        · by_cases hji : j = i
          · simp [hji]
          · simp [hall j hj hji]
        · rw [hlk] at h
          cases h
      · have h2 := hs.2
        rw [if_neg hik, if_neg hiz] at h2
        have hki : (k == i) = false := by simp; exact fun e => hik e.symm
        have hzi : (z == i) = false := by simp; exact fun e => hiz e.symm
        have hr := h2 x a w1 hkp hfinds (by
          cases hlk : l k with
          | false => exact .inl (hJ.pre hlk)
          | true => exact .inr (hJ.mid hlk hlz))
        unfold Oper.wp
        rw [hr, Oper.upon_value]
        refine ⟨_, rfl, x, nvals x _ rfl (fun _ _ _ _ => rfl), fun h => ?_, fun h => hJ.pre ?_, fun h1 h2 => hJ.mid ?_ hlz, fun h => ?_, hcl⟩
        · rw [hlz, hzi] at h; cases h
        · rw [hki, Bool.or_false] at h; exact h
        · rw [hki, Bool.or_false] at h1; exact h1
        · rw [hlz, hzi] at h; cases h
  · rintro l a w1 hall ⟨x, hJ⟩ ht hd hkp
    exact hQ a w1 x (ht.trans hn.symm) hd hkp (fun i o d ho hdst => hJ.vals i o d ho (hall i (Array.getElem?_eq_some_iff.1 ho).1) hdst) (hJ.post (hall z hzs))
end Go.Proofs.YtcicekggeampcaaGreat

/-
  Keys that are put among keys, plain and in memory.
-/
namespace Go.Proofs.YtcicekggeampcaaGreat
open Go.RowKit
/-- Keys K, keys F that come in; the row A, where those up to e are still to be moved and those of F up to r to be laid. -/
structure AK (K F A : List ByteArray) (e r : Nat) : Prop where
  len : A.length = K.length + F.length
  le : e ≤ K.length
  rl : r ≤ F.length
  head : A.take e = K.take e
  srt : Srt (A.drop (e + r))
  lo : ∀ x ∈ K.take e, ∀ t ∈ A.drop (e + r), lt x t = true
  fl : ∀ x ∈ F.take r, ∀ t ∈ A.drop (e + r), lt x t = true
  mem : ∀ t, t ∈ A.drop (e + r) ↔ t ∈ K.drop e ∨ t ∈ F.drop r
theorem ak_start (K F : List ByteArray) : AK K F (K ++ F) K.length F.length := by
  have e : (K ++ F).drop (K.length + F.length) = [] := List.drop_of_length_le (by simp)
  exact ⟨by simp, Nat.le_refl _, Nat.le_refl _, by simp, by rw [e]; exact List.Pairwise.nil, by rw [e]; simp, by rw [e]; simp, by rw [e]; simp⟩
theorem ak_end {K F A : List ByteArray} {e : Nat} (h : AK K F A e 0) (hK : Srt K) : Srt A ∧ ∀ t, t ∈ A ↔ t ∈ K ∨ t ∈ F := by
  have hA : A = K.take e ++ A.drop e := by conv => lhs; rw [← List.take_append_drop e A, h.head]
  have h1 := h.srt
  have h2 := h.lo
  have h3 := h.mem
  simp only [Nat.add_zero] at h1 h2 h3
  constructor
  · rw [hA]
    refine List.pairwise_append.2 ⟨List.Pairwise.sublist (List.take_sublist _ _) hK, h1, fun x hx t ht => h2 x hx t ht⟩
  · intro t
    rw [hA, List.mem_append, h3 t]
    simp only [List.drop_zero]
    conv => rhs; rw [← List.take_append_drop e K, List.mem_append]
    exact or_assoc.symm
/-- The row behind one more key. -/
def akNext (A : List ByteArray) (e r p : Nat) (key : ByteArray) : List ByteArray := A.take (p + r) ++ key :: ((A.take e).drop p ++ A.drop (e + (r + 1)))
theorem srt_take {K : List ByteArray} (h : Srt K) (e : Nat) : Srt (K.take e) := List.Pairwise.sublist (List.take_sublist _ _) h
theorem srt_drop {K : List ByteArray} (h : Srt K) (e : Nat) : Srt (K.drop e) := List.Pairwise.sublist (List.drop_sublist _ _) h
theorem ak_step {K F A : List ByteArray} {e r : Nat} (h : AK K F A e (r + 1)) (hK : Srt K) (hF : Srt F) (hd : ∀ x ∈ F, x ∉ K) {key : ByteArray} (hk : F[r]? = some key) {p : Nat} (hp : p = lb (A.take e) key) : AK K F (akNext A e r p key) p r := by
  have hr : r < F.length := h.rl
  have hFr : F[r] = key := by rw [List.getElem?_eq_getElem hr] at hk; exact Option.some.inj hk
  have hsT := srt_take hK e
  rw [h.head] at hp
  have hpe : p ≤ e := by rw [hp]; exact Nat.le_trans (lb_le _ _) (by rw [List.length_take]; omega)
  have hle := h.le
  have hlen := h.len
  have hAe : p + r ≤ A.length := by omega
  have hdr : (akNext A e r p key).drop (p + r) = key :: ((K.take e).drop p ++ A.drop (e + (r + 1))) := by
    unfold akNext
    rw [List.drop_append_of_le_length (by rw [List.length_take]; omega), List.drop_of_length_le (by rw [List.length_take]; omega), h.head]
    rfl
  have hkF : key ∈ F := by rw [← hFr]; exact List.getElem_mem hr
  have hkt : ∀ t ∈ A.drop (e + (r + 1)), lt key t = true := fun t ht => h.fl key (by rw [← hFr]; exact List.mem_take_iff_getElem.2 ⟨r, by omega, rfl⟩) t ht
  have hmid : ∀ x ∈ (K.take e).drop p, lt key x = true := fun x hx => by
    have h1 := lb_drop hsT (t := key) x (by rw [← hp]; exact hx)
    cases hq : lt key x with
    | true => rfl
    | false =>
      have := lt_total h1 hq
      exact absurd (List.mem_of_mem_take (List.mem_of_mem_drop hx)) (by rw [this]; exact hd key hkF)
  have hmt : ∀ x ∈ (K.take e).drop p, ∀ t ∈ A.drop (e + (r + 1)), lt x t = true := fun x hx t ht => h.lo x (List.mem_of_mem_drop hx) t ht
  have hhead : ∀ x ∈ K.take p, lt x key = true := fun x hx => lb_take hsT (t := key) x (by rw [← hp, List.take_take, Nat.min_eq_left hpe]; exact hx)
  have hsplit : K.drop p = (K.take e).drop p ++ K.drop e := by
    conv => lhs; rw [← List.take_append_drop e K]
    rw [List.drop_append_of_le_length (by rw [List.length_take]; omega)]
  refine ⟨?_, by omega, by omega, ?_, ?_, ?_, ?_, ?_⟩
  · unfold akNext
    simp only [List.length_append, List.length_take, List.length_cons, List.length_drop]
    omega
  · unfold akNext
    rw [List.take_append_of_le_length (by rw [List.length_take]; omega), List.take_take, Nat.min_eq_left (by omega)]
    have := congrArg (List.take p) h.head
    rw [List.take_take, List.take_take, Nat.min_eq_left hpe] at this
    exact this
  · rw [hdr]
    refine List.pairwise_cons.2 ⟨fun t ht => ?_, List.pairwise_append.2 ⟨srt_drop hsT p, h.srt, hmt⟩⟩
    rcases List.mem_append.1 ht with ht | ht
    · exact hmid t ht
    · exact hkt t ht
  · rw [hdr]
    intro x hx t ht
    have hxk := hhead x hx
    rcases List.mem_cons.1 ht with rfl | ht
    · exact hxk
    rcases List.mem_append.1 ht with ht | ht
    · exact lt_trans hxk (hmid t ht)
    · exact lt_trans hxk (hkt t ht)
  · rw [hdr]
    intro x hx t ht
    have hxk : lt x key = true := by
      obtain ⟨i, hi, rfl⟩ := List.mem_take_iff_getElem.1 hx
      rw [← hFr]
      exact (List.pairwise_iff_getElem.1 hF) i r (by omega) hr (by omega)
    rcases List.mem_cons.1 ht with rfl | ht
    · exact hxk
    rcases List.mem_append.1 ht with ht | ht
    · exact lt_trans hxk (hmid t ht)
    · exact lt_trans hxk (hkt t ht)
  · intro t
    rw [hdr, List.mem_cons, List.mem_append, h.mem t, hsplit, List.mem_append, List.drop_eq_getElem_cons hr, List.mem_cons, hFr]
    constructor
    · rintro (h1 | h1 | h1 | h1)
      · exact .inr (.inl h1)
      · exact .inl (.inl h1)
      · exact .inl (.inr h1)
      · exact .inr (.inr h1)
    · rintro ((h1 | h1) | h1 | h1)
      · exact .inr (.inl h1)
      · exact .inr (.inr (.inl h1))
      · exact .inl h1
      · exact .inr (.inr (.inr h1))
theorem KE_cs (L : List ByteArray) : KE.cs L = L.map Value.string := by
  induction L with
  | nil => rfl
  | cons x r ih =>
    rw [Enc.cs_cons, ih]
    rfl
/-- From place i up to place j. -/
theorem slice_K (t : TypeId) (ht : Tryz.prog.underlying t = some (.slice 9)) (a : Option Addr) (n cap i j : Nat) (hi : i ≤ j) (hj : j ≤ n) (hn : n ≤ cap) (W : World) :
    (Instr.sliceAt t (.slice a n cap) (some (.int .i64 (i : Int))) (some (.int .i64 (j : Int))) none).run Tryz.prog W = .ok (.slice (if cap = i then a else a.map (·.add i)) (j - i) (cap - i)) W := by
  have e1 : (i : Int) ≤ (j : Int) := by omega
  have e2 : (j : Int) ≤ (cap : Int) := by omega
  have hsz := Tryz.size9
  cases hq : Tryz.prog.info? 9 with
  | none => simp [hq] at hsz
  | some k =>
    have hk : k.size = 1 := by simpa [hq] using hsz
    simp [Instr.sliceAt, Instr.slice, run_underlying ht, Instr.sliceBounds, run_sliceBound, e1, e2, sizeOf, typeInfo, hq, hk]
theorem OwnG.setK {w : World} {g n cap : Nat} {A : List ByteArray} (h : OwnG KE w 0 9 (.slice (some ⟨g, 0, none⟩) n cap) A) (i : Nat) (X : List ByteArray) (hi : i + X.length ≤ A.length) :
    OwnG KE (w.setCells g i (KE.cs X)) 0 9 (.slice (some ⟨g, 0, none⟩) n cap) (A.take i ++ X ++ A.drop (i + X.length)) ∧ But g w (w.setCells g i (KE.cs X)) := by
  refine ⟨?_, But.setCells g _ i w⟩
  have hl := h.rd.len
  rcases Nat.eq_zero_or_pos A.length with h0 | hp
  · have hX : X = [] := List.eq_nil_of_length_eq_zero (by omega)
    subst hX
    simp only [Enc.cs_nil, World.setCells, List.append_nil, List.length_nil, Nat.add_zero, List.take_append_drop]
    exact h
  obtain ⟨g', cap', cur, e, hB, hb, ht, hc, h1, h2⟩ := h.blk hp
  simp only [Value.slice.injEq, Option.some.injEq, Addr.mk.injEq, and_true] at e
  obtain ⟨rfl, rfl, rfl⟩ := e
  have hcx : (KE.cs X).length = X.length := by rw [KE_cs]; simp
  have h3 : i + (KE.cs X).length ≤ cur.length := by rw [hcx, hc]; show i + X.length ≤ cap * 1; omega
  have hb2 := Blk.over (KE.cs X) hb i h3
  have hlen : (A.take i ++ X ++ A.drop (i + X.length)).length = A.length := by simp; omega
  have := OwnG.of_blk (E := KE) (B := 0) (L := A.take i ++ X ++ A.drop (i + X.length)) hb2 (Nat.zero_le _) ?_ (by rw [over_length h3]; exact hc) (by rw [hlen]; exact h1) h2
  · rw [hlen] at this
    exact this
  · rw [hlen]
    have ht' : cur.take A.length = A.map Value.string := by have := ht; rw [KE_cs] at this; simpa [KE] using this
    show (over cur i (KE.cs X)).take (A.length * 1) = _
    rw [Nat.mul_one, KE_cs, KE_cs]
    unfold over
    simp only [List.length_map, List.map_append, List.map_take, List.map_drop, ← ht']
    apply List.ext_getElem?
    intro q
    simp only [List.getElem?_take, List.getElem?_append, List.length_append, List.length_take, List.length_map, List.getElem?_drop]
    have hcl : A.length ≤ cur.length := by rw [hc]; show A.length ≤ cap * 1; omega
    split <;> split <;> (try split) <;> (try split) <;> (try split) <;> (try split) <;> (try (exfalso; omega)) <;> (try rfl) <;> (try (rw [List.getElem?_eq_none (by omega)])) <;> (congr 1; omega)
/-- copy(keys[i:], keys[p:e]). -/
theorem copy_K (tk : TypeId) (ht : Tryz.prog.underlying tk = some (.slice 9)) {w : World} {g N cap : Nat} {A : List ByteArray} (h : OwnG KE w 0 9 (.slice (some ⟨g, 0, none⟩) N cap) A) (i p e : Nat) (hpe : p ≤ e) (heN : e ≤ N) (hi : i + (e - p) ≤ N) (ty : TypeId) :
    ∃ w', (Builtin.copy_ #[tk, tk] ty #[.slice (if cap = i then some ⟨g, 0, none⟩ else (some ⟨g, 0, none⟩ : Option Addr).map (·.add i)) (N - i) (cap - i), .slice (if cap = p then some ⟨g, 0, none⟩ else (some ⟨g, 0, none⟩ : Option Addr).map (·.add p)) (e - p) (cap - p)]).run Tryz.prog w = .ok (goInt ((e - p : Nat) : Int)) w' ∧
      OwnG KE w' 0 9 (.slice (some ⟨g, 0, none⟩) N cap) (A.take i ++ (A.take e).drop p ++ A.drop (i + (e - p))) ∧ But g w w' := by
  have hl := h.rd.len
  have hcap := h.rd.cap
  have hX : ((A.take e).drop p).length = e - p := by rw [List.length_drop, List.length_take]; omega
  have hset := h.setK i ((A.take e).drop p) (by rw [hX]; omega)
  rw [hX] at hset
  refine ⟨_, ?_, hset⟩
  have hsz := Tryz.size9
  have hmin : Nat.min (e - p) (N - i) = e - p := Nat.min_eq_left (by omega)
  have hcs : (KE.cs ((A.take e).drop p)).length = e - p := by rw [KE_cs, List.length_map, hX]
  cases hq : Tryz.prog.info? 9 with
  | none => simp [hq] at hsz
  | some k =>
    have hk : k.size = 1 := by simpa [hq] using hsz
    rcases Nat.eq_zero_or_pos (e - p) with h0 | hp
    · have hnil : (A.take e).drop p = [] := List.eq_nil_of_length_eq_zero (by rw [hX]; exact h0)
      rw [h0] at hmin
      rw [hnil, h0]
      have hld : ∀ (x : Addr), (loadCells x 0).run Tryz.prog w = .ok #[] w := fun x => run_loadCells_none w x
      split <;> split <;> simp [Builtin.copy_, run_underlying ht, Builtin.lenOf, Builtin.firstCells, sizeOf, typeInfo, hq, storeCells, hld, World.setCells, Enc.cs_nil]
    · obtain ⟨g', cap', cur, e', hB, hb, htk, hc, h1, h2⟩ := h.blk (by omega)
      simp only [Value.slice.injEq, Option.some.injEq, Addr.mk.injEq, and_true] at e'
      obtain ⟨rfl, rfl, rfl⟩ := e'
      have hcl : cur.length = cap := by rw [hc]; show cap * 1 = cap; omega
      rw [if_neg (by omega), if_neg (by omega)]
      have hst := run_storeCells_cells (P := Tryz.prog) g i (KE.cs ((A.take e).drop p)) 0 w (fun j hj => by rw [hb.cell (v := cur[i + 0 + j]'(by rw [hcs] at hj; omega)) (by simp)]; rfl) (fun j _ => hb.frozen _) (Enc.cs_one _)
      have hld := run_loadCells_list (P := Tryz.prog) w ⟨g, p, none⟩ (KE.cs ((A.take e).drop p)) (fun j u hj => by
        rw [Addr.add_mid]
        refine hb.cell ?_
        have hjl : j < e - p := by have := (List.getElem?_eq_some_iff.1 hj).1; rw [hcs] at this; exact this
        have ht' : cur.take A.length = A.map Value.string := by have := htk; rw [KE_cs] at this; simpa [KE] using this
        rw [KE_cs, List.getElem?_map, List.getElem?_drop, List.getElem?_take_of_lt (by omega), ← List.getElem?_map, ← ht', List.getElem?_take_of_lt (by omega)] at hj
        exact hj)
      rw [hcs] at hld
      simp only [Nat.add_zero] at hst
      simp only [Option.map_some, Addr.add_lit]
      simp [Builtin.copy_, run_underlying ht, Builtin.lenOf, Builtin.firstCells, sizeOf, typeInfo, hq, hk, hmin, hld, hst]
end Go.Proofs.YtcicekggeampcaaGreat

/-
  addKeys: what the call does.
-/
namespace Go.Proofs.YtcicekggeampcaaGreat
open Go.RowKit Go.Shelf
attribute [local go_sem] Oper.semAt_some
/-- What is kept while keys are laid. -/
def AKI (w4 : World) (D M S0 : Nat) (x : Value) (last floor : Int) (K F : List ByteArray) (pre : List (Nat × ByteArray)) (W : World) : Prop :=
  ∃ A e r, AK K F A e r ∧ pre.length + r = F.length ∧ Blk W D 65 (SB M x last floor) ∧ Blk W S0 29 [.pointer (some ⟨D, 0, none⟩)] ∧ Blk W (S0 + 1) 3 [.int .i64 (e : Int)] ∧ OwnG KE W 0 9 x A ∧ Chg (fun k => x.ownBlock = some k ∨ k = S0 + 1 ∨ w4.heap.size ≤ k) w4 W
theorem AKI.chg {w4 : World} {D M S0 : Nat} {x : Value} {last floor : Int} {K F : List ByteArray} {pre : List (Nat × ByteArray)} {W W' : World} (h : AKI w4 D M S0 x last floor K F pre W) {G : Nat → Prop} (hc : Chg G W W') (hG : ∀ k, k < w4.heap.size → ¬ G k) (hx : ∀ b, x.ownBlock = some b → ¬ G b) (hD : D < w4.heap.size) (hS : S0 + 1 < w4.heap.size) : AKI w4 D M S0 x last floor K F pre W' := by
  obtain ⟨A, e, r, h1, h2, h3, h4, h5, h6, h7⟩ := h
  exact ⟨A, e, r, h1, h2, h3.chg hc (hG _ hD), h4.chg hc (hG _ (by omega)), h5.chg hc (hG _ hS), h6.chg hc hx, h7.then hc (fun i hi hg => absurd hg (hG i hi))⟩
set_option maxRecDepth 100000 in
theorem backward_any (a : Option Addr) (n cap : Nat) (w : World) : Calls Tryz.prog 93 #[.slice a n cap] w fun e w' => e = .returned (.func (.func 107) #[] #[.pointer (some ⟨w.heap.size, 0, none⟩)]) ∧ w' = w.alloc (.cells #[.slice a n cap] 63) := by
  go_enter Tryz.func93, Tryz.ntmps93
  go_wp2
  go_ret
  exact ⟨rfl, rfl⟩
set_option maxRecDepth 100000 in
set_option maxHeartbeats 4000000 in
theorem addKeys_any {w : World} {D M : Nat} {vk vf : Value} {last floor : Int} {K F : List ByteArray} (hB : Blk w D 65 (SB M vk last floor)) (hk : OwnG KE w 0 9 vk K) (hf : RdG KE w vf F) (hsK : Srt K) (hsF : Srt F) (hdis : ∀ x ∈ F, x ∉ K)
    (hap : ∀ b, InB vf b → b ≠ D ∧ vk.ownBlock ≠ some b) (hl : K.length + F.length ≤ 1000000) :
    Calls Tryz.prog 62 #[.pointer (some ⟨D, 0, none⟩), vf] w fun e w' => ∃ vk' K', e = .returned (.tuple #[]) ∧ Blk w' D 65 (SB M vk' last floor) ∧ OwnG KE w' 0 9 vk' K' ∧ Srt K' ∧ (∀ t, t ∈ K' ↔ t ∈ K ∨ t ∈ F) ∧ K'.length = K.length + F.length ∧
      Chg (fun b => b = D ∨ vk.ownBlock = some b) w w' ∧ (∀ b, vk'.ownBlock = some b → vk.ownBlock = some b ∨ w.heap.size ≤ b) := by
  obtain ⟨N0, -⟩ : ∃ n : Nat, True := ⟨9, trivial⟩
  have HB := hide hB
  have HK := hide hk
  have HF := hide hf
  have HAP := hide hap
  obtain ⟨ak, ck, rfl⟩ := hk.rd.slice
  obtain ⟨af, cf, rfl⟩ := hf.slice
  obtain ⟨n, HN⟩ : ∃ n, Hid (K.length = n) := ⟨_, rfl⟩
  obtain ⟨m, HM⟩ : ∃ m, Hid (F.length = m) := ⟨_, rfl⟩
  rw [HN.out] at HK HB HAP hl ⊢
  rw [HM.out] at HF HAP hl ⊢
  have hDlt := hB.lt
  have c1 : w.cell? ⟨D, 1, none⟩ = some (.slice ak n ck) := HB.out.cell (j := 1) rfl
  clear hB hk hf hap
  refine (callsIn_wide (n := N0)).1 ?_
  refine callsIn_of_wp_marks Tryz.func62 rfl trivial ?_ rfl
  simp only [Tryz.ntmps62, List.size_toArray, List.length_cons, List.length_nil, Nat.reduceAdd, Nat.reduceSub, Array.replicate_succ, Array.replicate_zero, List.push_toArray, List.append_toArray, List.nil_append, List.cons_append]
  gi_wp2_with fail
  have B2s : Hid (Blk ((w.alloc (.cells #[.pointer (some ⟨D, 0, none⟩)] 29)).alloc (.cells #[.int .i64 (n : Int)] 3)) w.heap.size 29 [.pointer (some ⟨D, 0, none⟩)]) := (Blk.new w 29 [.pointer (some ⟨D, 0, none⟩)]).alloc _
  have B2e : Hid (Blk ((w.alloc (.cells #[.pointer (some ⟨D, 0, none⟩)] 29)).alloc (.cells #[.int .i64 (n : Int)] 3)) (w.heap.size + 1) 3 [.int .i64 (n : Int)]) := (show Blk _ _ _ _ by
    have := Blk.new (w.alloc (.cells #[.pointer (some ⟨D, 0, none⟩)] 29)) 3 [.int .i64 (n : Int)]
    rw [World.size_alloc] at this
    exact this)
  have L2 : Hid (Below w.heap.size w ((w.alloc (.cells #[.pointer (some ⟨D, 0, none⟩)] 29)).alloc (.cells #[.int .i64 (n : Int)] 3))) := (((Below.refl _ _).alloc (Nat.le_refl _) _).alloc (by simp) _)
  have S2 : Hid (((w.alloc (.cells #[.pointer (some ⟨D, 0, none⟩)] 29)).alloc (.cells #[.int .i64 (n : Int)] 3)).heap.size = w.heap.size + 2) := (show _ = _ by simp)
  obtain ⟨w2, hw2⟩ : ∃ x, x = (w.alloc (.cells #[.pointer (some ⟨D, 0, none⟩)] 29)).alloc (.cells #[.int .i64 (n : Int)] 3) := ⟨_, rfl⟩
  rw [← hw2] at B2s B2e L2 S2 ⊢
  clear hw2 c1
  have HB2 : Hid (Blk w2 D 65 (SB M (.slice ak n ck) last floor)) := HB.out.kept L2.out
  have HK2 : Hid (OwnG KE w2 0 9 (.slice ak n ck) K) := HK.out.kept L2.out
  have HF2 : Hid (RdG KE w2 (.slice af m cf) F) := HF.out.kept L2.out
  have hKD : Hid (∀ b, (Value.slice ak n ck).ownBlock = some b → b ≠ D ∧ b < w.heap.size) := (show ∀ b, _ from fun b hb => by
    obtain ⟨_, h2, cur, hc⟩ := HK.out.block hb
    refine ⟨fun e => ?_, h2⟩
    have := HB.out
    unfold Blk at this
    rw [← e, hc] at this
    cases this)
  obtain ⟨S0, HS0⟩ : ∃ s, Hid (w.heap.size = s) := ⟨_, rfl⟩
  rw [HS0.out] at B2s B2e S2 hKD hDlt ⊢
  have hAB : Hid (∀ x w', (w'.heap = w2.heap ∧ Below w2.heap.size w2 w') ∨ (OwnG KE w' 0 9 x (K ++ F) ∧ Chg (fun b => (Value.slice ak n ck).ownBlock = some b) w2 w' ∧ ∀ b, x.ownBlock = some b → (Value.slice ak n ck).ownBlock = some b ∨ w2.heap.size ≤ b) →
      w'.cell? ⟨S0, 0, none⟩ = some (.pointer (some ⟨D, 0, none⟩)) ∧ w'.cell? ⟨D, 1, none⟩ = some (.slice ak n ck)) := (show ∀ x w', _ from by
    rintro x w' (⟨-, h⟩ | ⟨-, h, -⟩)
    · exact ⟨(B2s.out.kept h).cell rfl, (HB2.out.kept h).cell (j := 1) rfl⟩
    · exact ⟨(B2s.out.chg h (fun hb => by have := (hKD.out _ hb).2; omega)).cell rfl, (HB2.out.chg h (fun hb => (hKD.out _ hb).1 rfl)).cell (j := 1) rfl⟩)
  refine wpIn_wide.2 ?_
  refine wp_region_two Tryz.mixed (fun i_ x => match i_ with | 6 => x | 0 | 1 | 2 | 7 => .pointer (some ⟨D, 0, none⟩) | 3 | 8 => .pointer (some ⟨D, 1, none⟩) | 4 => .slice ak n ck | 5 => .slice af m cf | _ => undef) (fun w' => w'.heap = w2.heap ∧ Below w2.heap.size w2 w')
    (fun x w' => OwnG KE w' 0 9 x (K ++ F) ∧ Chg (fun b => (Value.slice ak n ck).ownBlock = some b) w2 w' ∧ ∀ b, x.ownBlock = some b → (Value.slice ak n ck).ownBlock = some b ∨ w2.heap.size ≤ b)
    (fun x w' => Blk w' D 65 (SB M x last floor) ∧ OwnG KE w' 0 9 x (K ++ F) ∧ Chg (fun b => b = D ∨ (Value.slice ak n ck).ownBlock = some b) w2 w' ∧ ∀ b, x.ownBlock = some b → (Value.slice ak n ck).ownBlock = some b ∨ w2.heap.size ≤ b)
    6 9 65 rfl (by decide +kernel) (by decide +kernel) (by decide) (by decide) (by decide) (fun w' h1 h2 => ⟨h1, h2⟩) (fun _ => rfl) ?_ ?_ ?_
  · intro i x y hi hne _
    have : i = 0 ∨ i = 1 ∨ i = 2 ∨ i = 3 ∨ i = 4 ∨ i = 5 ∨ i = 7 ∨ i = 8 ∨ i = 9 := by simp at hi; omega
    rcases this with rfl | rfl | rfl | rfl | rfl | rfl | rfl | rfl | rfl <;> rfl
  · refine AllFrom.cons ⟨rfl, ?_⟩ (AllFrom.cons ⟨rfl, ?_⟩ (AllFrom.cons ⟨rfl, ?_⟩ (AllFrom.cons ⟨rfl, ?_⟩ (AllFrom.cons ⟨rfl, ?_⟩ (AllFrom.cons ⟨rfl, ?_⟩ (AllFrom.cons ⟨rfl, ?_⟩ (AllFrom.cons ⟨rfl, ?_⟩ (AllFrom.cons ⟨rfl, ?_⟩ (AllFrom.cons ⟨rfl, ?_⟩ AllFrom.nil)))))))))
    · -- 0: Op.load 25 (Operand.tmp 2)
      rw [if_neg (by decide), if_neg (by decide)]
      intro x a' w' hk hd hab
      have e2 : a'.eval (.tmp 2) = .pointer (some ⟨S0, 0, none⟩) := hk.at 2 (by decide +kernel)
      clear hd hk
      obtain ⟨cS, cD⟩ := hAB.out x w' hab
      simp only [execOp, e2]
      go_simp
    · -- 1: Op.load 25 (Operand.tmp 2)
      rw [if_neg (by decide), if_neg (by decide)]
      intro x a' w' hk hd hab
      have e2 : a'.eval (.tmp 2) = .pointer (some ⟨S0, 0, none⟩) := hk.at 2 (by decide +kernel)
      clear hd hk
      obtain ⟨cS, cD⟩ := hAB.out x w' hab
      simp only [execOp, e2]
      go_simp
    · -- 2: Op.nilCheck (Operand.tmp 15)
      rw [if_neg (by decide), if_neg (by decide)]
      intro x a' w' hk hd hab
      have e15 : a'.eval (.tmp 15) = .pointer (some ⟨D, 0, none⟩) := hd 1 15 (by decide +kernel)
      clear hd hk
      obtain ⟨cS, cD⟩ := hAB.out x w' hab
      simp only [execOp, e15]
      go_simp
    · -- 3: Op.fieldAddr 55 (Operand.tmp 16) 1
      rw [if_neg (by decide), if_neg (by decide)]
      intro x a' w' hk hd hab
      have e16 : a'.eval (.tmp 16) = .pointer (some ⟨D, 0, none⟩) := hd 2 16 (by decide +kernel)
      clear hd hk
      obtain ⟨cS, cD⟩ := hAB.out x w' hab
      simp only [execOp, e16]
      go_simp
    · -- 4: Op.load 47 (Operand.tmp 17)
      rw [if_neg (by decide), if_neg (by decide)]
      intro x a' w' hk hd hab
      have e17 : a'.eval (.tmp 17) = .pointer (some ⟨D, 1, none⟩) := hd 3 17 (by decide +kernel)
      clear hd hk
      obtain ⟨cS, cD⟩ := hAB.out x w' hab
      simp only [execOp, e17]
      go_simp
    · -- 5: Op.move (Operand.tmp 1)
      rw [if_neg (by decide), if_neg (by decide)]
      intro x a' w' hk hd hab
      have e1 : a'.eval (.tmp 1) = .slice af m cf := hk.at 1 (by decide +kernel)
      simp only [execOp, e1]
      rfl
    · -- 6: Op.call ( callee := Callee.builtin Builtin.append, args := #
      rw [if_pos (by decide)]
      intro x a' w' hk hd hA
      have e18 : a'.eval (.tmp 18) = .slice ak n ck := hd 4 18 (by decide +kernel)
      have e19 : a'.eval (.tmp 19) = .slice af m cf := hd 5 19 (by decide +kernel)
      obtain ⟨i0, hi0, hz0, hz1, hz2⟩ := info_parts Tryz.info9
      have hA2 : Below w2.heap.size w2 w' := hA.2
      obtain ⟨v', w'', hr, h2, h3, h4⟩ := run_append_at (P := Tryz.prog) w' 0 63 63 63 9 i0 (.string ⟨#[]⟩) 1 16 Tryz.underlying63 hi0 hz0 hz1 hz2 rfl (.slice ak n ck) n (KE.cs K) (by have := HK2.out.kept hA2; unfold OwnG at this; rw [HN.out] at this; exact this) (.slice af m cf) m (KE.cs F) (by have := (HF2.out.kept hA2).src (P := Tryz.prog) 63 9 Tryz.underlying63; rw [HM.out] at this; exact this) (by simp only [maxLen]; omega) (by omega) (Nat.zero_le _)
      unfold Oper.wp execOp
      simp only [resolve, invoke, builtin, Sem.run_bind, Sem.run_pure, Result.andThen_ok, List.map_toArray, List.map_cons, List.map_nil, e18, e19, hr]
      refine ⟨v', rfl, ?_, (Chg.of_below hA2).trans (Chg.of_grown h3 (fun k e _ => e)), fun b hb => ?_⟩
      · unfold OwnG
        rw [List.length_append, Enc.cs_append, HN.out, HM.out]
        exact h2
      · rcases h4 b hb with h | h
        · exact .inl h
        · exact .inr (by rw [h]; exact hA2.size)
    · -- 7: Op.nilCheck (Operand.tmp 14)
      rw [if_neg (by decide), if_neg (by decide)]
      intro x a' w' hk hd hab
      have e14 : a'.eval (.tmp 14) = .pointer (some ⟨D, 0, none⟩) := hd 0 14 (by decide +kernel)
      clear hd hk
      obtain ⟨cS, cD⟩ := hAB.out x w' hab
      simp only [execOp, e14]
      go_simp
    · -- 8: Op.fieldAddr 55 (Operand.tmp 21) 1
      rw [if_neg (by decide), if_neg (by decide)]
      intro x a' w' hk hd hab
      have e21 : a'.eval (.tmp 21) = .pointer (some ⟨D, 0, none⟩) := hd 7 21 (by decide +kernel)
      clear hd hk
      obtain ⟨cS, cD⟩ := hAB.out x w' hab
      simp only [execOp, e21]
      go_simp
    · -- 9: Op.store 47 (Operand.tmp 22) (Operand.tmp 20)
      rw [if_neg (by decide), if_pos (by decide)]
      intro x a' w' hk hd hB
      have e20 : a'.eval (.tmp 20) = x := hd 6 20 (by decide +kernel)
      have e22 : a'.eval (.tmp 22) = .pointer (some ⟨D, 1, none⟩) := hd 8 22 (by decide +kernel)
      have hb := (HB2.out.chg hB.2.1 (fun hb => (hKD.out _ hb).1 rfl))
      have hx : ∃ xa xn xc, x = .slice xa xn xc := by obtain ⟨xa, xc, h⟩ := hB.1.rd.slice; exact ⟨_, _, _, h⟩
      obtain ⟨xa, xn, xc, rfl⟩ := hx
      have hc := hb.cell (j := 1) rfl
      have hfz := hb.frozen 1
      unfold Oper.wp execOp
      simp only [Sem.run_bind, Sem.run_pure, e22, e20]
      go_simp
      refine ⟨?_, ?_, ?_, hB.2.2⟩
      · exact hb.set 1 _
      · exact hB.1.chg (F := fun b => b = D) (Chg.setCell (F := fun b => b = D) w' (b := D) rfl 1 _) (fun b hb' e => by
          rcases hB.2.2 b hb' with h | h
          · exact (hKD.out b h).1 e
          · rw [e] at h; have := HB2.out.lt; omega)
      · exact (hB.2.1.mono (fun _ _ h => .inr h)).trans (Chg.setCell w' (.inl rfl) 1 _)
  · intro a' w3 x hsz hdf hk hall hC
    have e14 : a'.eval (.tmp 14) = .pointer (some ⟨D, 0, none⟩) := hall 0 _ 14 rfl rfl
    have e15 : a'.eval (.tmp 15) = .pointer (some ⟨D, 0, none⟩) := hall 1 _ 15 rfl rfl
    have e16 : a'.eval (.tmp 16) = .pointer (some ⟨D, 0, none⟩) := hall 2 _ 16 rfl rfl
    have e17 : a'.eval (.tmp 17) = .pointer (some ⟨D, 1, none⟩) := hall 3 _ 17 rfl rfl
    have e18 : a'.eval (.tmp 18) = .slice ak n ck := hall 4 _ 18 rfl rfl
    have e19 : a'.eval (.tmp 19) = .slice af m cf := hall 5 _ 19 rfl rfl
    have e20 : a'.eval (.tmp 20) = x := hall 6 _ 20 rfl rfl
    have e21 : a'.eval (.tmp 21) = .pointer (some ⟨D, 0, none⟩) := hall 7 _ 21 rfl rfl
    have e22 : a'.eval (.tmp 22) = .pointer (some ⟨D, 1, none⟩) := hall 8 _ 22 rfl rfl
    have ha := act_puts 65 rfl hsz hdf hk [14, 15, 16, 17, 18, 19, 20, 21, 22] (by decide +kernel)
    simp only [puts, List.foldl_cons, List.foldl_nil, e14, e15, e16, e17, e18, e19, e20, e21, e22] at ha
    simp only [Act.put, List.setIfInBounds_toArray, List.set_cons_succ, List.set_cons_zero] at ha
    clear hall hk hsz hdf e14 e15 e16 e17 e18 e19 e20 e21 e22
    subst ha
    clear hAB
    have HC := hide hC
    have hx : ∃ xa xc, x = .slice xa (n + m) xc := by
      obtain ⟨xa, xc, h⟩ := hC.2.1.rd.slice
      rw [List.length_append, HN.out, HM.out] at h
      exact ⟨xa, xc, h⟩
    have hxb : Hid (∀ b, x.ownBlock = some b → b < w3.heap.size ∧ b ≠ D ∧ b ≠ S0 ∧ b ≠ S0 + 1) := (show ∀ b, _ from fun b hb => by
      have h1 := (hC.2.1.block hb).2.1
      have h2 := S2.out
      rcases hC.2.2.2 b hb with h | h
      · have := hKD.out b h
        exact ⟨h1, this.1, by omega, by omega⟩
      · exact ⟨h1, by omega, by omega, by omega⟩)
    have hs3 : Hid (S0 + 2 ≤ w3.heap.size) := (show _ by rw [← S2.out]; exact hC.2.2.1.size)
    have B3s : Hid (Blk w3 S0 29 [.pointer (some ⟨D, 0, none⟩)]) := B2s.out.chg hC.2.2.1 (fun h => by rcases h with h | h; omega; have := (hKD.out _ h).2; omega)
    have B3e : Hid (Blk w3 (S0 + 1) 3 [.int .i64 (n : Int)]) := B2e.out.chg hC.2.2.1 (fun h => by rcases h with h | h; omega; have := (hKD.out _ h).2; omega)
    have F3 : Hid (RdG KE w3 (.slice af m cf) F) := HF2.out.chg hC.2.2.1 (fun b hb h => by
      have := HAP.out b hb
      rcases h with h | h
      · exact this.1 h
      · exact this.2 h)
    clear hC
    obtain ⟨xa, xc, hx'⟩ := hx
    have HX' := hide hx'
    clear hx'
    gi_wp2_with fail
    refine wide_call (backward_any af m cf w3) ?_
    rintro e w4 ⟨rfl, hw4⟩
    have G4 : Hid (Below w3.heap.size w3 w4) := (show Below _ _ _ by rw [hw4]; exact (Below.refl _ _).alloc (Nat.le_refl _) _)
    have B4x : Hid (Blk w4 w3.heap.size 63 [.slice af m cf]) := (show Blk _ _ _ _ by rw [hw4]; exact Blk.new w3 63 [.slice af m cf])
    have S4 : Hid (w4.heap.size = w3.heap.size + 1) := (show _ = _ by rw [hw4]; simp)
    clear hw4
    have F4 := hide (F3.out.kept G4.out)
    gi_wp2_with fail
    refine wp_ranged2 (n := N0) (gf := 107) (lb := #[.pointer (some ⟨w3.heap.size, 0, none⟩)]) rfl (enters_of Tryz.func107 (by kernel_rfl) rfl) (encs := bwV) (fun _ => rfl) (R := bwR F) (S := fun xs => xs.length = F.length) (AKI w4 D M S0 x last floor K F) (fun _ _ _ => False) ?ip (fun _ _ _ _ _ _ _ _ h => h) ?ib (fun _ _ _ _ h _ => h) (fun _ _ _ _ _ _ _ _ h => h) ?h0 (G := fun k => x.ownBlock = some k ∨ k = S0 + 1 ∨ w4.heap.size ≤ k) (fun k hk => .inr (.inr hk))
      (backward1_hands (N0 - 1) w3.heap.size af cf F w4 ?c1 ?c2 ?c3 ?c4 ?c5 ?c6)
      (fun y => { tmps := #[.pointer (some ⟨D, 0, none⟩), .slice af m cf, .pointer (some ⟨S0, 0, none⟩), undef, .pointer (some ⟨S0 + 1, 0, none⟩), .int .i64 (y.1 : Int), .string y.2, undef, undef, .pointer (some ⟨D, 0, none⟩), .pointer (some ⟨D, 0, none⟩), .pointer (some ⟨D, 1, none⟩), .slice ak n ck, .int .i64 (n : Int), .pointer (some ⟨D, 0, none⟩), .pointer (some ⟨D, 0, none⟩), .pointer (some ⟨D, 0, none⟩), .pointer (some ⟨D, 1, none⟩), .slice ak n ck, .slice af m cf, x, .pointer (some ⟨D, 0, none⟩), .pointer (some ⟨D, 1, none⟩), .slice af m cf, .func (.func 107) #[] #[.pointer (some ⟨w3.heap.size, 0, none⟩)], .int .i64 (y.1 : Int), .string y.2, undef, undef, undef, undef, undef, undef, undef, undef, undef, undef, undef, undef, undef, undef, undef, undef, undef, undef, undef, undef, undef, undef, undef, undef, undef, undef, undef, undef, undef, undef, undef, undef, undef, undef, undef, undef, undef, undef], defers := [] }) ?assign ?body ?done (fun _ _ _ _ _ h _ => h.elim)
    case c1 => rw [HM.out]; exact B4x.out.cell rfl
    case c2 => exact B4x.out.lt
    case c3 => rw [HM.out]; exact F4.out
    case c4 => rw [HM.out]; omega
    case c5 =>
      rintro (h | h | h)
      · have := (hxb.out _ h).1; omega
      · have := hs3.out; omega
      · have := S4.out; omega
    case c6 =>
      rw [HM.out]
      intro b hb h
      have hlt := HF.out.inB_lt hb
      rw [HS0.out] at hlt
      have hs := hs3.out
      rcases h with h | h | h
      · rcases HC.out.2.2.2 b h with h | h
        · exact (HAP.out b hb).2 h
        · have := S2.out; omega
      · omega
      · have := S4.out; omega
    case ip =>
      intro pre W l r o hl hW hI
      exact hI.chg (chg_put (G := fun k => k = l) rfl o) (fun k hk e => by subst e; omega) (fun b hb e => by subst e; have := (hxb.out _ hb).1; have := S4.out; omega) (by have := hs3.out; have := S4.out; omega) (by have := S4.out; have := hs3.out; omega)
    case ib =>
      intro pre X Y hI hb
      exact hI.chg (G := fun _ => False) (Chg.of_below hb) (fun _ _ => id) (fun _ _ => id) (by have := hs3.out; have := S4.out; omega) (by have := S4.out; have := hs3.out; omega)
    case h0 =>
      refine ⟨K ++ F, n, m, by have := ak_start K F; rw [HN.out, HM.out] at this; exact this, by simp [HM.out], HC.out.1.kept G4.out, B3s.out.kept G4.out, B3e.out.kept G4.out, HC.out.2.1.kept G4.out, Chg.refl _ _⟩
    case assign =>
      intro l y W K' hK
      simp only [bwV]
      gi_wp2
      exact hK
    case body =>
      rintro l pre ⟨i, key⟩ W hle hI hR
      obtain ⟨A, e, r, hak, hpr, hbD, hbS, hbE, hown, hch⟩ := hI
      obtain ⟨hR1, hR2⟩ := hR
      obtain rfl : r = i + 1 := by simp only at hR1; omega
      have hAl : A.length = n + m := by rw [hak.len, HN.out, HM.out]
      have him : i + 1 ≤ m := by have := hak.rl; rw [HM.out] at this; exact this
      have hen : e ≤ n := by have := hak.le; rw [HN.out] at this; exact this
      obtain ⟨g, cap, cur, hxe, -, -, -, -, hcap, -⟩ := hown.blk (by omega)
      rw [hAl] at hxe hcap
      subst hxe
      have HAK := hide hak
      have bD := hide hbD
      have bS := hide hbS
      have bE := hide hbE
      have HO := hide hown
      have HCH := hide hch
      have HAL := hide hAl
      have HPR := hide hpr
      have HR2 := hide hR2
      have hsA : Hid (Srt (A.take e)) := (show Srt _ by rw [hak.head]; exact srt_take hsK e)
      obtain ⟨p, Hp⟩ : ∃ p, Hid (lb (A.take e) key = p) := ⟨_, rfl⟩
      obtain ⟨fd, Hfd⟩ : ∃ x, Hid (sfnd (A.take e) key = x) := ⟨_, rfl⟩
      have hpe : p ≤ e := by have := lb_le (A.take e) key; rw [Hp.out, List.length_take] at this; omega
      have hsl := (slice_G_to (E := KE) (P := Tryz.prog) Tryz.underlying63 Tryz.size9 (some ⟨g, 0, none⟩) (n + m) cap e (by omega) hcap).1
      have hrdE := hide ((slice_G_to (E := KE) (P := Tryz.prog) Tryz.underlying63 Tryz.size9 (some ⟨g, 0, none⟩) (n + m) cap e (by omega) hcap).2 W A hown.rd)
      clear hak hbD hbS hbE hown hch hAl hpr hR1 hR2
      gi_wp2_with fail
      refine region_in Tryz.mixed (by decide +kernel) (by rintro ⟨_, _, h⟩; exact h) (inv_any (KS (fun i_ => match i_ with | 0 | 1 => .val (.pointer (some ⟨D, 0, none⟩)) | 2 => .val (.pointer (some ⟨D, 1, none⟩)) | 3 => .val (.slice (some ⟨g, 0, none⟩) (n + m) cap) | 4 => .val (.int .i64 (e : Int)) | 5 => .val (.slice (some ⟨g, 0, none⟩) e cap) | 6 => .val (.string key) | 7 | 8 => .val (.tuple #[.int .i64 (p : Int), .bool fd]) | 9 | 11 => .val (.int .i64 (p : Int)) | 10 | 12 => .val (.bool fd) | _ => .free)) 65 rfl (by decide +kernel) (KS_mono _) ?_ ?_)
      · refine AllFrom.cons (fun a' w' hg hk hd => ?_) (AllFrom.cons (fun a' w' hg hk hd => ?_) (AllFrom.cons (fun a' w' hg hk hd => ?_) (AllFrom.cons (fun a' w' hg hk hd => ?_) (AllFrom.cons (fun a' w' hg hk hd => ?_) (AllFrom.cons (fun a' w' hg hk hd => ?_) (AllFrom.cons (fun a' w' hg hk hd => ?_) (AllFrom.cons (fun a' w' hg hk hd => ?_) (AllFrom.cons (fun a' w' hg hk hd => ?_) (AllFrom.cons (fun a' w' hg hk hd => ?_) (AllFrom.cons (fun a' w' hg hk hd => ?_) (AllFrom.cons (fun a' w' hg hk hd => ?_) (AllFrom.cons (fun a' w' hg hk hd => ?_) AllFrom.nil))))))))))))
        · -- 0: Op.load 25 (Operand.tmp 2)
          intro Q
          have e2 : a'.eval (.tmp 2) = .pointer (some ⟨S0, 0, none⟩) := hk.at 2 (by decide +kernel)
          have c := (bS.out.kept hg).cell (j := 0) rfl
          clear hd hk
          exact wp_value (.pointer (some ⟨D, 0, none⟩)) (by simp only [execOp, e2]; go_simp) (KS_mkv rfl rfl)
        · -- 1: Op.nilCheck (Operand.tmp 28)
          intro Q
          have e28 : a'.eval (.tmp 28) = .pointer (some ⟨D, 0, none⟩) := KS_val (Deps.val hd 0 28 (by decide +kernel)) rfl
          clear hd hk
          exact wp_value (.pointer (some ⟨D, 0, none⟩)) (by simp only [execOp, e28]; go_simp) (KS_mkv rfl rfl)
        · -- 2: Op.fieldAddr 55 (Operand.tmp 29) 1
          intro Q
          have e29 : a'.eval (.tmp 29) = .pointer (some ⟨D, 0, none⟩) := KS_val (Deps.val hd 1 29 (by decide +kernel)) rfl
          clear hd hk
          exact wp_value (.pointer (some ⟨D, 1, none⟩)) (by simp only [execOp, e29]; go_simp) (KS_mkv rfl rfl)
        · -- 3: Op.load 47 (Operand.tmp 30)
          intro Q
          have e30 : a'.eval (.tmp 30) = .pointer (some ⟨D, 1, none⟩) := KS_val (Deps.val hd 2 30 (by decide +kernel)) rfl
          have c := (bD.out.kept hg).cell (j := 1) rfl
          clear hd hk
          exact wp_value (.slice (some ⟨g, 0, none⟩) (n + m) cap) (by simp only [execOp, e30]; go_simp) (KS_mkv rfl rfl)
        · -- 4: Op.load 3 (Operand.tmp 4)
          intro Q
          have e4 : a'.eval (.tmp 4) = .pointer (some ⟨S0 + 1, 0, none⟩) := hk.at 4 (by decide +kernel)
          have c := (bE.out.kept hg).cell (j := 0) rfl
          clear hd hk
          exact wp_value (.int .i64 (e : Int)) (by simp only [execOp, e4]; go_simp) (KS_mkv rfl rfl)
        · -- 5: Op.slice 47 (Operand.tmp 31) none (some (Operand.tmp 32)) no
          intro Q
          have e31 : a'.eval (.tmp 31) = .slice (some ⟨g, 0, none⟩) (n + m) cap := KS_val (Deps.val hd 3 31 (by decide +kernel)) rfl
          have e32 : a'.eval (.tmp 32) = .int .i64 (e : Int) := KS_val (Deps.val hd 4 32 (by decide +kernel)) rfl
          clear hd hk
          exact wp_value (.slice (some ⟨g, 0, none⟩) e cap) (by simp only [execOp, Option.map_some, Option.map_none, e31, e32, hsl, Sem.run_bind, Sem.run_pure, Result.andThen_ok]) (KS_mkv rfl rfl)
        · -- 6: Op.move (Operand.tmp 6)
          intro Q
          have e6 : a'.eval (.tmp 6) = .string key := hk.at 6 (by decide +kernel)
          exact wp_value _ (by simp only [execOp, e6]; rfl) (KS_mkv rfl rfl)
        · -- 7: Op.call ( callee := Callee.value (Operand.func 52), args := 
          intro Q
          have e33 : a'.eval (.tmp 33) = .slice (some ⟨g, 0, none⟩) e cap := KS_val (Deps.val hd 5 33 (by decide +kernel)) rfl
          have e34 : a'.eval (.tmp 34) = .string key := KS_val (Deps.val hd 6 34 (by decide +kernel)) rfl
          refine wp_call 94 _ (run_enter 94 _ _ rfl (by kernel_rfl)) ?_
          simp only [List.map_toArray, List.map_nil, List.map_cons, e33, e34]
          refine (bsearch_any (hrdE.out.kept hg) hsA.out (by rw [List.length_take]; omega) key).mono ?_
          rintro e_ w_ ⟨rfl, hw_⟩
          subst w_
          rw [Hp.out, Hfd.out]
          exact ⟨_, rfl, KS_mkv rfl rfl, Gr.refl _⟩
        · -- 8: Op.move (Operand.tmp 35)
          intro Q
          have e35 : a'.eval (.tmp 35) = .tuple #[.int .i64 (p : Int), .bool fd] := KS_val (Deps.val hd 7 35 (by decide +kernel)) rfl
          exact wp_value _ (by simp only [execOp, e35]; rfl) (KS_mkv rfl rfl)
        · -- 9: Op.extract (Operand.tmp 27) 0
          intro Q
          have e27 : a'.eval (.tmp 27) = .tuple #[.int .i64 (p : Int), .bool fd] := KS_val (Deps.val hd 8 27 (by decide +kernel)) rfl
          clear hd hk
          exact wp_value (.int .i64 (p : Int)) (by simp only [execOp, e27]; go_simp) (KS_mkv rfl rfl)
        · -- 10: Op.extract (Operand.tmp 27) 1
          intro Q
          have e27 : a'.eval (.tmp 27) = .tuple #[.int .i64 (p : Int), .bool fd] := KS_val (Deps.val hd 8 27 (by decide +kernel)) rfl
          clear hd hk
          exact wp_value (.bool fd) (by simp only [execOp, e27]; go_simp) (KS_mkv rfl rfl)
        · -- 11: Op.assign (Operand.tmp 36)
          intro Q
          have e36 : a'.eval (.tmp 36) = .int .i64 (p : Int) := KS_val (Deps.val hd 9 36 (by decide +kernel)) rfl
          exact wp_value _ (by simp only [execOp, e36]; rfl) (KS_mkv rfl rfl)
        · -- 12: Op.assign (Operand.tmp 37)
          intro Q
          have e37 : a'.eval (.tmp 37) = .bool fd := KS_val (Deps.val hd 10 37 (by decide +kernel)) rfl
          exact wp_value _ (by simp only [execOp, e37]; rfl) (KS_mkv rfl rfl)
      · intro a' w5 hsz hdf hk hall hg
        have e28 : a'.eval (.tmp 28) = .pointer (some ⟨D, 0, none⟩) := KS_val (hall 0 _ 28 rfl rfl) rfl
        have e29 : a'.eval (.tmp 29) = .pointer (some ⟨D, 0, none⟩) := KS_val (hall 1 _ 29 rfl rfl) rfl
        have e30 : a'.eval (.tmp 30) = .pointer (some ⟨D, 1, none⟩) := KS_val (hall 2 _ 30 rfl rfl) rfl
        have e31 : a'.eval (.tmp 31) = .slice (some ⟨g, 0, none⟩) (n + m) cap := KS_val (hall 3 _ 31 rfl rfl) rfl
        have e32 : a'.eval (.tmp 32) = .int .i64 (e : Int) := KS_val (hall 4 _ 32 rfl rfl) rfl
        have e33 : a'.eval (.tmp 33) = .slice (some ⟨g, 0, none⟩) e cap := KS_val (hall 5 _ 33 rfl rfl) rfl
        have e34 : a'.eval (.tmp 34) = .string key := KS_val (hall 6 _ 34 rfl rfl) rfl
        have e35 : a'.eval (.tmp 35) = .tuple #[.int .i64 (p : Int), .bool fd] := KS_val (hall 7 _ 35 rfl rfl) rfl
        have e27 : a'.eval (.tmp 27) = .tuple #[.int .i64 (p : Int), .bool fd] := KS_val (hall 8 _ 27 rfl rfl) rfl
        have e36 : a'.eval (.tmp 36) = .int .i64 (p : Int) := KS_val (hall 9 _ 36 rfl rfl) rfl
        have e37 : a'.eval (.tmp 37) = .bool fd := KS_val (hall 10 _ 37 rfl rfl) rfl
        have e7 : a'.eval (.tmp 7) = .int .i64 (p : Int) := KS_val (hall 11 _ 7 rfl rfl) rfl
        have e8 : a'.eval (.tmp 8) = .bool fd := KS_val (hall 12 _ 8 rfl rfl) rfl
        have ha := act_puts 65 rfl hsz hdf hk [28, 29, 30, 31, 32, 33, 34, 35, 27, 36, 37, 7, 8] (by decide +kernel)
        simp only [puts, List.foldl_cons, List.foldl_nil, e28, e29, e30, e31, e32, e33, e34, e35, e27, e36, e37, e7, e8] at ha
        simp only [Act.put, List.setIfInBounds_toArray, List.set_cons_succ, List.set_cons_zero] at ha
        clear hall hk hsz hdf e28 e29 e30 e31 e32 e33 e34 e35 e27 e36 e37 e7 e8
        subst ha
        have G5 := hide (show Below W.heap.size W w5 from hg)
        clear hg hsl
        have hs2 : ∀ W, (Instr.sliceAt 63 (.slice (some ⟨g, 0, none⟩) (n + m) cap) (some (.int .i64 ((p : Int) + (i : Int) + 1))) none none).run Tryz.prog W = .ok (.slice (if cap = p + i + 1 then some ⟨g, 0, none⟩ else (some ⟨g, 0, none⟩ : Option Addr).map (·.add (p + i + 1))) (n + m - (p + i + 1)) (cap - (p + i + 1))) W := by
          obtain ⟨a', h1, h2, -⟩ := slice_G (E := KE) (P := Tryz.prog) Tryz.underlying63 Tryz.size9 (some ⟨g, 0, none⟩) (n + m) cap (p + i + 1) (by omega) hcap
          rw [show ((p + i + 1 : Nat) : Int) = (p : Int) + (i : Int) + 1 by omega] at h1
          subst h2
          simpa [KE] using h1
        have hs3' := slice_K 63 Tryz.underlying63 (some ⟨g, 0, none⟩) (n + m) cap p e hpe (by omega) hcap
        have hw1 : IntKind.i64.wrap ((p : Int) + (i : Int)) = (p : Int) + (i : Int) := wr64 (by omega) (by omega)
        have hw2 : IntKind.i64.wrap ((p : Int) + (i : Int) + 1) = (p : Int) + (i : Int) + 1 := wr64 (by omega) (by omega)
        generalize hA1 : (if cap = p + i + 1 then some ⟨g, 0, none⟩ else (some ⟨g, 0, none⟩ : Option Addr).map (·.add (p + i + 1))) = a1 at hs2
        generalize hA2 : (if cap = p then some ⟨g, 0, none⟩ else (some ⟨g, 0, none⟩ : Option Addr).map (·.add p)) = a2 at hs3'
        have HA1 := hide hA1
        have HA2 := hide hA2
        clear hA1 hA2
        have bD5 := hide (bD.out.kept G5.out)
        have bS5 := hide (bS.out.kept G5.out)
        have bE5 := hide (bE.out.kept G5.out)
        have HO5 := hide (HO.out.kept G5.out)
        gi_wp2_with fail
        refine region_in Tryz.mixed (by decide +kernel) (by rintro ⟨_, _, h⟩; exact h) (tails_any (KS (fun i_ => match i_ with | 0 | 1 | 9 | 10 => .val (.pointer (some ⟨D, 0, none⟩)) | 2 | 11 => .val (.pointer (some ⟨D, 1, none⟩)) | 3 | 12 => .val (.slice (some ⟨g, 0, none⟩) (n + m) cap) | 4 | 13 => .val (.int .i64 (p : Int)) | 5 => .val (.int .i64 (i : Int)) | 6 => .val (.int .i64 ((p : Int) + (i : Int))) | 7 => .val (.int .i64 ((p : Int) + (i : Int) + 1)) | 8 => .val (.slice a1 (n + m - (p + i + 1)) (cap - (p + i + 1))) | 14 => .val (.int .i64 (e : Int)) | 15 => .val (.slice a2 (e - p) (cap - p)) | _ => .free)) 65 rfl (by decide +kernel) 16 (by decide) (by decide +kernel) (KS_mono _) ?_ ?_)
        · refine AllFrom.cons ⟨rfl, fun a' w' hg hk hd Q => ?_⟩ (AllFrom.cons ⟨rfl, fun a' w' hg hk hd Q => ?_⟩ (AllFrom.cons ⟨rfl, fun a' w' hg hk hd Q => ?_⟩ (AllFrom.cons ⟨rfl, fun a' w' hg hk hd Q => ?_⟩ (AllFrom.cons ⟨rfl, fun a' w' hg hk hd Q => ?_⟩ (AllFrom.cons ⟨rfl, fun a' w' hg hk hd Q => ?_⟩ (AllFrom.cons ⟨rfl, fun a' w' hg hk hd Q => ?_⟩ (AllFrom.cons ⟨rfl, fun a' w' hg hk hd Q => ?_⟩ (AllFrom.cons ⟨rfl, fun a' w' hg hk hd Q => ?_⟩ (AllFrom.cons ⟨rfl, fun a' w' hg hk hd Q => ?_⟩ (AllFrom.cons ⟨rfl, fun a' w' hg hk hd Q => ?_⟩ (AllFrom.cons ⟨rfl, fun a' w' hg hk hd Q => ?_⟩ (AllFrom.cons ⟨rfl, fun a' w' hg hk hd Q => ?_⟩ (AllFrom.cons ⟨rfl, fun a' w' hg hk hd Q => ?_⟩ (AllFrom.cons ⟨rfl, fun a' w' hg hk hd Q => ?_⟩ (AllFrom.cons ⟨rfl, fun a' w' hg hk hd Q => ?_⟩ AllFrom.nil)))))))))))))))
          · -- 0: Op.load 25 (Operand.tmp 2)
            have e2 : a'.eval (.tmp 2) = .pointer (some ⟨S0, 0, none⟩) := hk.at 2 (by decide +kernel)
            have c := (bS5.out.kept hg).cell (j := 0) rfl
            clear hd hk
            exact wp_value (.pointer (some ⟨D, 0, none⟩)) (by simp only [execOp, e2]; go_simp) (KS_mkv rfl rfl)
          · -- 1: Op.nilCheck (Operand.tmp 38)
            have e38 : a'.eval (.tmp 38) = .pointer (some ⟨D, 0, none⟩) := KS_val (Deps.val hd 0 38 (by decide +kernel)) rfl
            clear hd hk
            exact wp_value (.pointer (some ⟨D, 0, none⟩)) (by simp only [execOp, e38]; go_simp) (KS_mkv rfl rfl)
          · -- 2: Op.fieldAddr 55 (Operand.tmp 39) 1
            have e39 : a'.eval (.tmp 39) = .pointer (some ⟨D, 0, none⟩) := KS_val (Deps.val hd 1 39 (by decide +kernel)) rfl
            clear hd hk
            exact wp_value (.pointer (some ⟨D, 1, none⟩)) (by simp only [execOp, e39]; go_simp) (KS_mkv rfl rfl)
          · -- 3: Op.load 47 (Operand.tmp 40)
            have e40 : a'.eval (.tmp 40) = .pointer (some ⟨D, 1, none⟩) := KS_val (Deps.val hd 2 40 (by decide +kernel)) rfl
            have c := (bD5.out.kept hg).cell (j := 1) rfl
            clear hd hk
            exact wp_value (.slice (some ⟨g, 0, none⟩) (n + m) cap) (by simp only [execOp, e40]; go_simp) (KS_mkv rfl rfl)
          · -- 4: Op.move (Operand.tmp 7)
            have e7 : a'.eval (.tmp 7) = .int .i64 (p : Int) := hk.at 7 (by decide +kernel)
            exact wp_value _ (by simp only [execOp, e7]; rfl) (KS_mkv rfl rfl)
          · -- 5: Op.move (Operand.tmp 5)
            have e5 : a'.eval (.tmp 5) = .int .i64 (i : Int) := hk.at 5 (by decide +kernel)
            exact wp_value _ (by simp only [execOp, e5]; rfl) (KS_mkv rfl rfl)
          · -- 6: Op.binOp BinOp.add 3 (Operand.tmp 42) (Operand.tmp 43) 3
            have e42 : a'.eval (.tmp 42) = .int .i64 (p : Int) := KS_val (Deps.val hd 4 42 (by decide +kernel)) rfl
            have e43 : a'.eval (.tmp 43) = .int .i64 (i : Int) := KS_val (Deps.val hd 5 43 (by decide +kernel)) rfl
            clear hd hk
            exact wp_value (.int .i64 ((p : Int) + (i : Int))) (by simp only [execOp, e42, e43]; go_simp) (KS_mkv rfl rfl)
          · -- 7: Op.binOp BinOp.add 3 (Operand.tmp 44) (Operand.const (Value.
            have e44 : a'.eval (.tmp 44) = .int .i64 ((p : Int) + (i : Int)) := KS_val (Deps.val hd 6 44 (by decide +kernel)) rfl
            clear hd hk
            exact wp_value (.int .i64 ((p : Int) + (i : Int) + 1)) (by simp only [execOp, e44]; go_simp) (KS_mkv rfl rfl)
          · -- 8: Op.slice 47 (Operand.tmp 41) (some (Operand.tmp 45)) none no
            have e41 : a'.eval (.tmp 41) = .slice (some ⟨g, 0, none⟩) (n + m) cap := KS_val (Deps.val hd 3 41 (by decide +kernel)) rfl
            have e45 : a'.eval (.tmp 45) = .int .i64 ((p : Int) + (i : Int) + 1) := KS_val (Deps.val hd 7 45 (by decide +kernel)) rfl
            clear hd hk
            exact wp_value (.slice a1 (n + m - (p + i + 1)) (cap - (p + i + 1))) (by simp only [execOp, Option.map_some, Option.map_none, e41, e45, hs2, Sem.run_bind, Sem.run_pure, Result.andThen_ok]) (KS_mkv rfl rfl)
          · -- 9: Op.load 25 (Operand.tmp 2)
            have e2 : a'.eval (.tmp 2) = .pointer (some ⟨S0, 0, none⟩) := hk.at 2 (by decide +kernel)
            have c := (bS5.out.kept hg).cell (j := 0) rfl
            clear hd hk
            exact wp_value (.pointer (some ⟨D, 0, none⟩)) (by simp only [execOp, e2]; go_simp) (KS_mkv rfl rfl)
          · -- 10: Op.nilCheck (Operand.tmp 47)
            have e47 : a'.eval (.tmp 47) = .pointer (some ⟨D, 0, none⟩) := KS_val (Deps.val hd 9 47 (by decide +kernel)) rfl
            clear hd hk
            exact wp_value (.pointer (some ⟨D, 0, none⟩)) (by simp only [execOp, e47]; go_simp) (KS_mkv rfl rfl)
          · -- 11: Op.fieldAddr 55 (Operand.tmp 48) 1
            have e48 : a'.eval (.tmp 48) = .pointer (some ⟨D, 0, none⟩) := KS_val (Deps.val hd 10 48 (by decide +kernel)) rfl
            clear hd hk
            exact wp_value (.pointer (some ⟨D, 1, none⟩)) (by simp only [execOp, e48]; go_simp) (KS_mkv rfl rfl)
          · -- 12: Op.load 47 (Operand.tmp 49)
            have e49 : a'.eval (.tmp 49) = .pointer (some ⟨D, 1, none⟩) := KS_val (Deps.val hd 11 49 (by decide +kernel)) rfl
            have c := (bD5.out.kept hg).cell (j := 1) rfl
            clear hd hk
            exact wp_value (.slice (some ⟨g, 0, none⟩) (n + m) cap) (by simp only [execOp, e49]; go_simp) (KS_mkv rfl rfl)
          · -- 13: Op.move (Operand.tmp 7)
            have e7 : a'.eval (.tmp 7) = .int .i64 (p : Int) := hk.at 7 (by decide +kernel)
            exact wp_value _ (by simp only [execOp, e7]; rfl) (KS_mkv rfl rfl)
          · -- 14: Op.load 3 (Operand.tmp 4)
            have e4 : a'.eval (.tmp 4) = .pointer (some ⟨S0 + 1, 0, none⟩) := hk.at 4 (by decide +kernel)
            have c := (bE5.out.kept hg).cell (j := 0) rfl
            clear hd hk
            exact wp_value (.int .i64 (e : Int)) (by simp only [execOp, e4]; go_simp) (KS_mkv rfl rfl)
          · -- 15: Op.slice 47 (Operand.tmp 50) (some (Operand.tmp 51)) (some (
            have e50 : a'.eval (.tmp 50) = .slice (some ⟨g, 0, none⟩) (n + m) cap := KS_val (Deps.val hd 12 50 (by decide +kernel)) rfl
            have e51 : a'.eval (.tmp 51) = .int .i64 (p : Int) := KS_val (Deps.val hd 13 51 (by decide +kernel)) rfl
            have e52 : a'.eval (.tmp 52) = .int .i64 (e : Int) := KS_val (Deps.val hd 14 52 (by decide +kernel)) rfl
            clear hd hk
            exact wp_value (.slice a2 (e - p) (cap - p)) (by simp only [execOp, Option.map_some, Option.map_none, e50, e51, e52, hs3', Sem.run_bind, Sem.run_pure, Result.andThen_ok]) (KS_mkv rfl rfl)
        · intro a' w6 hsz hdf hk hall hg
          have e38 : a'.eval (.tmp 38) = .pointer (some ⟨D, 0, none⟩) := KS_val (hall 0 _ 38 (by decide) rfl rfl) rfl
          have e39 : a'.eval (.tmp 39) = .pointer (some ⟨D, 0, none⟩) := KS_val (hall 1 _ 39 (by decide) rfl rfl) rfl
          have e40 : a'.eval (.tmp 40) = .pointer (some ⟨D, 1, none⟩) := KS_val (hall 2 _ 40 (by decide) rfl rfl) rfl
          have e41 : a'.eval (.tmp 41) = .slice (some ⟨g, 0, none⟩) (n + m) cap := KS_val (hall 3 _ 41 (by decide) rfl rfl) rfl
          have e42 : a'.eval (.tmp 42) = .int .i64 (p : Int) := KS_val (hall 4 _ 42 (by decide) rfl rfl) rfl
          have e43 : a'.eval (.tmp 43) = .int .i64 (i : Int) := KS_val (hall 5 _ 43 (by decide) rfl rfl) rfl
          have e44 : a'.eval (.tmp 44) = .int .i64 ((p : Int) + (i : Int)) := KS_val (hall 6 _ 44 (by decide) rfl rfl) rfl
          have e45 : a'.eval (.tmp 45) = .int .i64 ((p : Int) + (i : Int) + 1) := KS_val (hall 7 _ 45 (by decide) rfl rfl) rfl
          have e46 : a'.eval (.tmp 46) = .slice a1 (n + m - (p + i + 1)) (cap - (p + i + 1)) := KS_val (hall 8 _ 46 (by decide) rfl rfl) rfl
          have e47 : a'.eval (.tmp 47) = .pointer (some ⟨D, 0, none⟩) := KS_val (hall 9 _ 47 (by decide) rfl rfl) rfl
          have e48 : a'.eval (.tmp 48) = .pointer (some ⟨D, 0, none⟩) := KS_val (hall 10 _ 48 (by decide) rfl rfl) rfl
          have e49 : a'.eval (.tmp 49) = .pointer (some ⟨D, 1, none⟩) := KS_val (hall 11 _ 49 (by decide) rfl rfl) rfl
          have e50 : a'.eval (.tmp 50) = .slice (some ⟨g, 0, none⟩) (n + m) cap := KS_val (hall 12 _ 50 (by decide) rfl rfl) rfl
          have e51 : a'.eval (.tmp 51) = .int .i64 (p : Int) := KS_val (hall 13 _ 51 (by decide) rfl rfl) rfl
          have e52 : a'.eval (.tmp 52) = .int .i64 (e : Int) := KS_val (hall 14 _ 52 (by decide) rfl rfl) rfl
          have e53 : a'.eval (.tmp 53) = .slice a2 (e - p) (cap - p) := KS_val (hall 15 _ 53 (by decide) rfl rfl) rfl
          obtain ⟨x54, e54⟩ : ∃ v, a'.eval (.tmp 54) = v := ⟨_, rfl⟩
          have HO6 := HO5.out.kept hg
          obtain ⟨w7, hrun, ho7, hb7⟩ := copy_K 63 Tryz.underlying63 HO6 (p + i + 1) p e hpe (by omega) (by omega) 3
          rw [HA1.out, HA2.out] at hrun
          refine ⟨rfl, ?_⟩
          unfold Oper.wp execOp
          simp only [resolve, invoke, builtin, Sem.run_bind, Sem.run_pure, Result.andThen_ok, List.map_toArray, List.map_cons, List.map_nil, e46, e53, hrun]
          refine ⟨_, rfl, ?_⟩
          have ha := act_puts 65 rfl hsz hdf hk [38, 39, 40, 41, 42, 43, 44, 45, 46, 47, 48, 49, 50, 51, 52, 53, 54] (by decide +kernel)
          simp only [puts, List.foldl_cons, List.foldl_nil, e38, e39, e40, e41, e42, e43, e44, e45, e46, e47, e48, e49, e50, e51, e52, e53, e54] at ha
          simp only [Act.put, List.setIfInBounds_toArray, List.set_cons_succ, List.set_cons_zero] at ha
          clear hall hk hsz hdf e38 e39 e40 e41 e42 e43 e44 e45 e46 e47 e48 e49 e50 e51 e52 e53 e54 hrun
          subst ha
          have hgD : g ≠ D ∧ g ≠ S0 ∧ g ≠ S0 + 1 := (hxb.out g rfl).2
          have bD7 := hide ((bD5.out.kept hg).but hb7 hgD.1.symm)
          have bS7 := hide ((bS5.out.kept hg).but hb7 hgD.2.1.symm)
          have bE7 := hide ((bE5.out.kept hg).but hb7 hgD.2.2.symm)
          have C7 : Hid (Chg (fun k => k = g ∨ k = S0 + 1) W w7) := ((Chg.of_below G5.out).trans (Chg.of_below (show Below w5.heap.size w5 w6 from hg))).trans (Chg.of_but hb7 (.inl rfl))
          have HO7 := hide ho7
          clear hg hb7 ho7 hs2 hs3' hw2
          obtain ⟨q, HQ⟩ : ∃ q, Hid (p + i = q) := ⟨_, rfl⟩
          have eq1 : (p : Int) + (i : Int) = (q : Int) := by have := HQ.out; omega
          have hqn : (q : Int) < ((n + m : Nat) : Int) := by have := HQ.out; omega
          have hw1' : IntKind.i64.wrap (q : Int) = (q : Int) := wr64 (by omega) (by omega)
          rw [HQ.out] at HO7
          have hA1l : (A.take (q + 1) ++ (A.take e).drop p ++ A.drop (q + 1 + (e - p))).length = n + m := HO7.out.rd.len
          obtain ⟨g', cap', cur', hxe', -, hb', ht', hc', -, -⟩ := HO7.out.blk (by omega)
          simp only [Value.slice.injEq, Option.some.injEq, Addr.mk.injEq, and_true] at hxe'
          obtain ⟨rfl, -, rfl⟩ := hxe'
          have hql : q < cur'.length := by rw [hc']; show q < cap * 1; omega
          have cq : w7.cell? ⟨g, q, none⟩ = some cur'[q] := hb'.cell (List.getElem?_eq_getElem hql)
          have fq := hb'.frozen q
          have HN2 := hide hb'
          have cS := bS7.out.cell (j := 0) rfl
          have cD := bD7.out.cell (j := 1) rfl
          have cE := bE7.out.cell (j := 0) rfl
          have fE := bE7.out.frozen 0
          have hset := hide (HO7.out.setK q [key] (by rw [hA1l, List.length_singleton]; omega))
          generalize cur'[q] = vq at cq
          show Exit.then _ _ Exit.normal _ w7
          simp only [Act.put, List.setIfInBounds_toArray, List.set_cons_succ, List.set_cons_zero]
          clear hw1 hb' ht' hc' hql
          have hne1 : S0 ≠ g := hgD.2.1.symm
          have hne2 : D ≠ g := hgD.1.symm
          have hne3 : S0 + 1 ≠ g := hgD.2.2.symm
          gi_wp2_with fail
          have hl2 : A.take (q + 1) ++ (A.take e).drop p ++ A.drop (q + 1 + (e - p)) = A.take (q + 1) ++ ((A.take e).drop p ++ A.drop (e + (i + 1))) := by
            rw [List.append_assoc, show q + 1 + (e - p) = e + (i + 1) by have := HQ.out; omega]
          have hres : (A.take (q + 1) ++ (A.take e).drop p ++ A.drop (q + 1 + (e - p))).take q ++ [key] ++ (A.take (q + 1) ++ (A.take e).drop p ++ A.drop (q + 1 + (e - p))).drop (q + [key].length) = akNext A e i p key := by
            have hAl := HAL.out
            rw [hl2, List.take_append_of_le_length (by rw [List.length_take]; omega), List.take_take, Nat.min_eq_left (by omega), List.length_singleton, List.drop_append_of_le_length (by rw [List.length_take]; omega), List.drop_of_length_le (by rw [List.length_take]; omega), List.nil_append]
            unfold akNext
            rw [HQ.out, List.append_assoc]
            rfl
          obtain ⟨ho8, hb8⟩ := hset.out
          rw [hres] at ho8
          have e8 : w7.setCells g q (KE.cs [key]) = w7.setCell ⟨g, q, none⟩ (.string key) := rfl
          rw [e8] at ho8 hb8
          have C9 : Chg (fun k => k = g ∨ k = S0 + 1) W ((w7.setCell ⟨g, q, none⟩ (.string key)).setCell ⟨S0 + 1, 0, none⟩ (.int .i64 (p : Int))) := (C7.out.trans (Chg.of_but hb8 (.inl rfl))).trans (Chg.setCell _ (.inr rfl) 0 _)
          have hWg : ∃ cu, W.heap[g]? = some (.cells cu 9 (0, 0)) := (HO.out.block (b := g) rfl).2.2
          refine ⟨keeps_chg C9 ?_, C9.mono ?_, akNext A e i p key, p, i, ak_step HAK.out hsK hsF hdis HR2.out Hp.out.symm, ?_, ?_, ?_, ?_, ?_, ?_⟩
          · rintro k ob (rfl | rfl) hk
            · obtain ⟨cu, hcu⟩ := hWg
              rw [hcu] at hk
              cases hk
              rfl
            · have := bE.out
              unfold Blk at this
              rw [this] at hk
              cases hk
              rfl
          · rintro k _ (rfl | rfl)
            · exact .inl rfl
            · exact .inr (.inl rfl)
          · have := HPR.out
            simp
            omega
          · exact (bD7.out.set_other hne2 q _).set_other (by omega) 0 _
          · exact (bS7.out.set_other hne1 q _).set_other (by omega) 0 _
          · exact (bE7.out.set_other hne3 q _).set 0 _
          · exact ho8.chg (F := fun b => b = S0 + 1) (Chg.setCell (F := fun b => b = S0 + 1) _ (b := S0 + 1) rfl 0 _) (fun b hb e => by
              cases hb
              exact hne3 e.symm)
          · refine (HCH.out.then C9 ?_)
            rintro k _ (rfl | rfl)
            · exact .inl rfl
            · exact .inr (.inl rfl)
    case done =>
      rintro E xs W hE hS hI hD
      obtain ⟨A, e, r, hak, hpr, hbD, hbS, hbE, hown, hch⟩ := hI
      obtain rfl : r = 0 := by omega
      obtain ⟨hsA, hmA⟩ := ak_end hak hsK
      gi_wp2_with fail
      refine ⟨by simp, .inl ⟨_, _, rfl, run_takeDeferred hD, ?_⟩⟩
      have hs3' := hs3.out
      have hs4' := S4.out
      have hp := chg_put (G := fun k => k = E) (W := W) (l := E) rfl (.deferred none)
      refine ⟨_, results_none rfl _ _ _, x, A, rfl, hbD.chg hp (by omega), hown.chg hp (fun b hb e => by have := (hxb.out b hb).1; omega), hsA, hmA, by rw [hak.len, HN.out, HM.out], ?_, fun b hb => ?_⟩
      · have h1 : Chg (fun b => b = D ∨ (Value.slice ak n ck).ownBlock = some b) w w3 := (Chg.of_below (F := fun b => b = D ∨ (Value.slice ak n ck).ownBlock = some b) L2.out).trans HC.out.2.2.1
        refine ((h1.trans (Chg.of_below G4.out)).then hch ?_).then hp ?_
        · rintro k hk (h | h | h)
          · rcases HC.out.2.2.2 k h with h | h
            · exact .inr h
            · have := S2.out; have := HS0.out; omega
          · have := HS0.out; omega
          · have := HS0.out; omega
        · rintro k hk rfl
          have := HS0.out
          omega
      · rcases HC.out.2.2.2 b hb with h | h
        · exact .inl h
        · exact .inr (by have := S2.out; have := HS0.out; omega)
end Go.Proofs.YtcicekggeampcaaGreat

/-
  Install and Collect, plain.
-/
namespace Go.Proofs.YtcicekggeampcaaGreat
open Go.RowKit
theorem goodP_at : ∀ {l : List Pr} {last : ByteArray}, goodP last l = true → ∀ p ∈ l, lt last p.1 = true ∧ p.1.size ≤ 64 ∧ p.2.1.size ≤ 256 ∧ (!p.2.2 || p.2.1.toList.isEmpty) = true
  | [], _, _, p, hp => by cases hp
  | q :: l, last, h, p, hp => by
    rw [goodP, Bool.and_eq_true] at h
    have h1 := h.1
    unfold pOk at h1
    simp only [Bool.and_eq_true, decide_eq_true_eq] at h1
    obtain ⟨⟨⟨a1, a2⟩, a3⟩, a4⟩ := h1
    rcases List.mem_cons.1 hp with rfl | hp
    · exact ⟨a1, a2, a3, a4⟩
    · obtain ⟨b1, b2, b3, b4⟩ := goodP_at h.2 p hp
      exact ⟨lt_trans a1 b1, b2, b3, b4⟩
theorem goodP_srt : ∀ {l : List Pr} {last : ByteArray}, goodP last l = true → Srt (l.map (·.1))
  | [], _, _ => List.Pairwise.nil
  | q :: l, last, h => by
    rw [goodP, Bool.and_eq_true] at h
    refine List.pairwise_cons.2 ⟨fun k hk => ?_, goodP_srt h.2⟩
    obtain ⟨p, hp, rfl⟩ := List.mem_map.1 hk
    exact (goodP_at h.2 p hp).1
theorem addL_none {n : Int} {k : ByteArray} : ∀ {l : List Pr} {ch : ByteArray → List Ver}, k ∉ l.map (·.1) → addL ch n l k = ch k
  | [], _, _ => rfl
  | q :: l, ch, h => by
    have h1 : k ≠ q.1 := fun e => h (by simp [e])
    have h2 : k ∉ l.map (·.1) := fun e => h (List.mem_cons_of_mem _ e)
    show addL (add1 ch n q) n l k = ch k
    rw [addL_none h2]
    unfold add1
    rw [if_neg h1]
theorem addL_some {n : Int} {p : Pr} : ∀ {l : List Pr} {ch : ByteArray → List Ver}, Srt (l.map (·.1)) → p ∈ l → addL ch n l p.1 = ch p.1 ++ [verOf n p]
  | [], _, _, h => by cases h
  | q :: l, ch, hs, h => by
    obtain ⟨h1, h2⟩ := List.pairwise_cons.1 hs
    show addL (add1 ch n q) n l p.1 = _
    rcases List.mem_cons.1 h with rfl | h
    · rw [addL_none (fun e => by have := h1 _ e; rw [lt_irrefl] at this; cases this)]
      unfold add1
      rw [if_pos rfl]
    · rw [addL_some h2 h]
      have : p.1 ≠ q.1 := fun e => by
        have := h1 p.1 (List.mem_map.2 ⟨p, h, rfl⟩)
        rw [e, lt_irrefl] at this
        cases this
      unfold add1
      rw [if_neg this]
theorem addL_snoc (ch : ByteArray → List Ver) (n : Int) (l : List Pr) (p : Pr) : addL ch n (l ++ [p]) = add1 (addL ch n l) n p := by simp [addL]
/-- The keys that are new. -/
def freshP (s : SP) (l : List Pr) : List ByteArray := (l.filter fun p => (s.ch p.1).isEmpty).map (·.1)
theorem freshP_snoc (s : SP) (l : List Pr) (p : Pr) : freshP s (l ++ [p]) = freshP s l ++ if (s.ch p.1).isEmpty = true then [p.1] else [] := by
  unfold freshP
  rw [List.filter_append, List.map_append]
  congr 1
  by_cases h : (s.ch p.1).isEmpty = true
  · rw [if_pos h, List.filter_cons_of_pos (by simpa using h)]
    rfl
  · rw [if_neg h, List.filter_cons_of_neg (by simpa using h)]
    rfl
theorem freshP_len (s : SP) (l : List Pr) : (freshP s l).length ≤ l.length := by
  unfold freshP
  rw [List.length_map]
  exact List.length_filter_le _ _
theorem mem_fresh {s : SP} {l : List Pr} {k : ByteArray} : k ∈ freshP s l ↔ k ∈ l.map (·.1) ∧ s.ch k = [] := by
  unfold freshP
  constructor
  · intro h
    obtain ⟨p, hp, rfl⟩ := List.mem_map.1 h
    obtain ⟨h1, h2⟩ := List.mem_filter.1 hp
    exact ⟨List.mem_map.2 ⟨p, h1, rfl⟩, by simpa using h2⟩
  · rintro ⟨h1, h2⟩
    obtain ⟨p, hp, rfl⟩ := List.mem_map.1 h1
    exact List.mem_map.2 ⟨p, List.mem_filter.2 ⟨hp, by simp [h2]⟩, rfl⟩
theorem fresh_srt {s : SP} {l : List Pr} (h : Srt (l.map (·.1))) : Srt (freshP s l) :=
  List.Pairwise.sublist (List.Sublist.map _ List.filter_sublist) h
theorem lst_le {L : List Ver} {m : Int} (h : ∀ v ∈ L, v.1 ≤ m) (hm : 0 ≤ m) : lst L ≤ m := by
  unfold lst
  split
  · cases hq : L.getLast? with
    | none => simpa using hm
    | some v => simpa using h v (List.mem_of_getLast? hq)
  · exact hm
theorem Inv.putOk {s : SP} {ks : List ByteArray} (h : Inv s ks) {p : Pr} (hp : (!p.2.2 || p.2.1.toList.isEmpty) = true) : putOk (s.ch p.1) (verOf (s.last + 1) p) = true := by
  unfold Go.Proofs.YtcicekggeampcaaGreat.putOk
  rw [h.good, Bool.true_and]
  have := lst_le (h.le p.1) (Int.le_trans h.fl h.fle)
  rw [fol_gt (v := verOf (s.last + 1) p) (by show _ < s.last + 1; omega)]
  exact hp
theorem gd_snocP : ∀ {L : List Ver} {last : Int} {v : Ver}, gd last L = true → (∀ u ∈ L, u.1 < v.1) → last < v.1 → (!v.2.2 || v.2.1.toList.isEmpty) = true → gd last (L ++ [v]) = true
  | [], last, v, _, _, h, hv => by
    show (fol v last && gd v.1 []) = true
    rw [fol_gt h, hv]
    rfl
  | u :: L, last, v, hg, hu, h, hv => by
    rw [gd, Bool.and_eq_true] at hg
    show (fol u last && gd u.1 (L ++ [v])) = true
    rw [hg.1, gd_snocP hg.2 (fun x hx => hu x (by simp [hx])) (hu u (by simp)) hv]
    rfl
theorem inst_inv {s : SP} {ks ks' : List ByteArray} (h : Inv s ks) {l : List Pr} (hg : goodP em l = true) (hs : Srt ks') (hm : ∀ k, k ∈ ks' ↔ k ∈ ks ∨ k ∈ freshP s l) : Inv ⟨addL s.ch (s.last + 1) l, s.last + 1, s.floor⟩ ks' := by
  have hsl := goodP_srt hg
  have hcase : ∀ k, (k ∉ l.map (·.1) ∧ addL s.ch (s.last + 1) l k = s.ch k) ∨ ∃ p ∈ l, k = p.1 ∧ addL s.ch (s.last + 1) l k = s.ch k ++ [verOf (s.last + 1) p] := fun k => by
    by_cases hk : k ∈ l.map (·.1)
    · obtain ⟨p, hp, rfl⟩ := List.mem_map.1 hk
      exact .inr ⟨p, hp, rfl, addL_some hsl hp⟩
    · exact .inl ⟨hk, addL_none hk⟩
  refine ⟨hs, fun k => ?_, fun k => ?_, fun k v hv => ?_, h.fl, by have := h.fle; show s.floor ≤ s.last + 1; omega⟩
  · rw [hm k, h.mem k, mem_fresh]
    rcases hcase k with ⟨h1, h2⟩ | ⟨p, hp, rfl, h2⟩
    · simp only [h2]
      constructor
      · rintro (h3 | h3)
        · exact h3
        · exact absurd h3.1 h1
      · exact fun h3 => .inl h3
    · simp only [h2]
      constructor
      · exact fun _ => by simp
      · intro _
        by_cases he : s.ch p.1 = []
        · exact .inr ⟨List.mem_map.2 ⟨p, hp, rfl⟩, he⟩
        · exact .inl he
  · rcases hcase k with ⟨h1, h2⟩ | ⟨p, hp, rfl, h2⟩
    · simp only [h2]
      exact h.good k
    · simp only [h2]
      have hle := h.le p.1
      exact gd_snocP (h.good _) (fun u hu => by have := hle u hu; show u.1 < s.last + 1; omega) (by have := h.fl; have := h.fle; show 0 < s.last + 1; omega) (goodP_at hg p hp).2.2.2
  · have hle := h.le k
    rcases hcase k with ⟨h1, h2⟩ | ⟨p, hp, rfl, h2⟩
    · simp only [h2] at hv
      have := hle v hv
      show v.1 ≤ s.last + 1
      omega
    · simp only [h2] at hv
      rcases List.mem_append.1 hv with hv | hv
      · have := hle v hv
        show v.1 ≤ s.last + 1
        omega
      · simp only [List.mem_singleton] at hv
        subst hv
        exact Int.le_refl _
end Go.Proofs.YtcicekggeampcaaGreat

/-
  A region that draws its order, in which one operation writes and others may still come behind it.
-/
namespace Go.Proofs.YtcicekggeampcaaGreat
open Go.RowKit
structure ZJ (ops : Array Oper) (S : Nat → World → Value → Prop) (C : World → Prop) (z : Nat) (w0 : World) (l : Nat → Bool) (a : Act) (w : World) : Prop where
  cl : Closed ops l
  pre : l z = false → (∀ (i : Nat) (o : Oper) (d : Nat), ops[i]? = some o → l i = true → o.dst = some d → S i w (a.eval (.tmp d))) ∧ Gr w0 w
  post : l z = true → (∀ (i : Nat) (o : Oper) (d : Nat), i ≠ z → ops[i]? = some o → l i = true → o.dst = some d → ∃ W, S i W (a.eval (.tmp d))) ∧ C w ∧ ∀ j, reachB ops ops.size z j = true → l j = true
abbrev OwesZ (P : Program) (ops : Array Oper) (S : Nat → World → Value → Prop) (C : World → Prop) (z : Nat) (a0 : Act) (w : World) (Q : Exit → Act → World → Prop) (i : Nat) (o : Oper) : Prop :=
  o.guard = none ∧ (if i = z then (∀ a w', Gr w w' → Kept ops a0 a → (∀ (j : Nat) (oj : Oper) (d : Nat), reachB ops ops.size z j = true → ops[j]? = some oj → oj.dst = some d → S j w' (a.eval (.tmp d))) →
      o.wp P a w' (fun a' w'' => ∃ v, a' = a.put o.dst v ∧ C w'') Q)
    else (∀ a w', Gr w w' → Kept ops a0 a → Deps ops S a w' o.after.toList → o.wp P a w' (fun a' w'' => ∃ v, a' = a.put o.dst v ∧ S i w'' v ∧ Gr w' w'') Q) ∧
      (reachB ops ops.size z i = false → ∀ a w', Kept ops a0 a → C w' → (∀ j d, depB ops o.after j d = true → ∃ W, S j W (a.eval (.tmp d))) → ∃ v, (execOp a.eval o).run P w' = .ok (.value v) w' ∧ ∃ W, S i W v))
theorem wp_region_z {P : Program} {id : Nat} {ops : Array Oper} {Q : Exit → Act → World → Prop} {a0 : Act} {w : World} (hm : P.follows .mixedOrders = true) (S : Nat → World → Value → Prop) (C : World → Prop)
    (n : Nat) (hn : a0.tmps.size = n) (hf : formB ops n = true) (z : Nat) (hzs : z < ops.size) (hzd : ((ops[z]?).bind (·.dst)) = none) (hmono : ∀ i w w' x, Gr w w' → S i w x → S i w' x)
    (hstep : AllFrom (OwesZ P ops S C z a0 w Q) 0 ops.toList)
    (hQ : ∀ a w', a.tmps.size = a0.tmps.size → a.defers = a0.defers → Kept ops a0 a → (∀ (i : Nat) (o : Oper) (d : Nat), i ≠ z → ops[i]? = some o → o.dst = some d → ∃ W, S i W (a.eval (.tmp d))) → C w' → Q .normal a w') :
    (Code.region id ops true).wp P Q a0 w := by
  refine wp_region_J hm (ZJ ops S C z w) n hn hf ?_ ?_ ?_
  · intro w' _ hg
    exact ⟨fun i o _ h => by simp at h, fun _ => ⟨fun i o d _ h => by simp at h, hg⟩, fun h => by simp at h⟩
  · intro i o ho l a w1 hJ ht hd hkp hli hw
    have hs := AllFrom.at hstep (i := i) (o := o) (by simpa using ho)
    rw [Nat.zero_add] at hs
    have hcl := hJ.cl.step ho hw
    refine ⟨hs.1, ?_⟩
    have hput : ∀ (v : Value) (j : Nat) (oj : Oper) (d : Nat), j ≠ i → ops[j]? = some oj → oj.dst = some d → (a.put o.dst v).eval (.tmp d) = a.eval (.tmp d) := fun v j oj d hji hoj hdj => eval_put_other (fun e => hji (formB_ne hf hoj ho hdj e))
    have hsame : ∀ (v : Value) (d : Nat), o.dst = some d → (a.put o.dst v).eval (.tmp d) = v := fun v d hd' => by rw [hd', eval_put_same (by rw [ht]; exact ((formB_spec hf ho).2 d hd').1)]
    by_cases hiz : i = z
    · have h2 := hs.2
      rw [if_pos hiz] at h2
      subst hiz
      obtain ⟨hv, hg⟩ := hJ.pre hli
      have hr : ∀ j, reachB ops ops.size i j = true → l j = true := fun j hj => reach_done hJ.cl _ i j o ho hw hj
      refine Oper.wp_mono ?_ (h2 a w1 hg hkp (fun j oj d hj hoj hdj => hv j oj d hoj (hr j hj) hdj))
      rintro a' w2 ⟨v, rfl, hC⟩
      refine ⟨v, rfl, hcl, fun h => by simp at h, fun _ => ⟨fun j oj d hji hoj hl hdj => ?_, hC, fun j hj => by simp [hr j hj]⟩⟩
      rw [hput v j oj d hji hoj hdj]
      exact ⟨w1, hv j oj d hoj (by have : (j == i) = false := by simp [hji]
                                   simpa [this] using hl) hdj⟩
    · have h2 := hs.2
      rw [if_neg hiz] at h2
      have hzi : (z == i) = false := by simp; exact fun e => hiz e.symm
      cases hlz : l z with
      | false =>
        obtain ⟨hv, hg⟩ := hJ.pre hlz
        refine Oper.wp_mono ?_ (h2.1 a w1 hg hkp (Deps.of fun e he hb o' ho' d' hd' => hv e.on o' d' ho' (waitsB_at hw e.on (by
          rw [Array.any_eq_true']
          exact ⟨e, by simpa using he, by simp [hb]⟩)) hd'))
        rintro a' w2 ⟨v, rfl, hS, hgr⟩
        refine ⟨v, rfl, hcl, fun _ => ⟨fun j oj d hoj hl hdj => ?_, hg.trans hgr⟩, fun h => by rw [hlz, hzi] at h; cases h⟩
        by_cases hji : j = i
        · subst hji
          rw [ho] at hoj
          simp only [Option.some.injEq] at hoj
          subst hoj
          rw [hsame v d hdj]
          exact hS
        · rw [hput v j oj d hji hoj hdj]
          have : (j == i) = false := by simp [hji]
          exact hmono j w1 w2 _ hgr (hv j oj d hoj (by simpa [this] using hl) hdj)
      | true =>
        obtain ⟨hv, hC, hall⟩ := hJ.post hlz
        have hnr : reachB ops ops.size z i = false := by
          cases hr : reachB ops ops.size z i with
          | false => rfl
          | true => rw [hall i hr] at hli; cases hli
        obtain ⟨v, hrun, hS⟩ := h2.2 hnr a w1 hkp hC (fun j d hb => by
          unfold depB at hb
          rw [Bool.and_eq_true] at hb
          have hlj := waitsB_at hw j hb.1
          cases hoj : ops[j]? with
          | none => rw [hoj] at hb; simp at hb
          | some oj =>
            rw [hoj] at hb
            by_cases hjz : j = z
            · subst hjz
              rw [hoj] at hzd
              simp only [Option.bind_some] at hzd
              have := hb.2
              simp only [Option.bind_some, hzd] at this
              cases this
            · exact hv j oj d hjz hoj hlj (by simpa using hb.2))
        unfold Oper.wp
        rw [hrun, Oper.upon_value]
        refine ⟨v, rfl, hcl, (fun h => by simp [hlz] at h), fun _ => ⟨fun j oj d hjz hoj hl hdj => ?_, hC, fun j hj => by simp [hall j hj]⟩⟩
        by_cases hji : j = i
        · subst hji
          rw [ho] at hoj
          simp only [Option.some.injEq] at hoj
          subst hoj
          rw [hsame v d hdj]
          exact hS
        · rw [hput v j oj d hji hoj hdj]
          have : (j == i) = false := by simp [hji]
          exact hv j oj d hjz hoj (by simpa [this] using hl) hdj
  · intro l a w1 hall hJ ht hd hkp
    obtain ⟨hv, hC, -⟩ := hJ.post (hall z hzs)
    exact hQ a w1 (ht.trans hn.symm) hd hkp (fun i o d hiz ho hdst => hv i o d hiz ho (hall i (Array.getElem?_eq_some_iff.1 ho).1) hdst) hC
end Go.Proofs.YtcicekggeampcaaGreat
