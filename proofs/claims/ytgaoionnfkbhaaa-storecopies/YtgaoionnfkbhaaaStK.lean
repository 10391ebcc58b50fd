/-
  Keys that are put among keys, plain and in memory.
-/
import Derived.Test.YtgaoionnfkbhaaaStW
namespace Go.Proofs.Ytgaoionnfkbhaaa
open Go.RowKit
/-- Keys K, keys F that come in; the row A, where those up to e are still to be moved and those of F up to r to be laid. -/
structure AK (K F A : List ByteArray) (e r : Nat) : Prop where
  len : A.length = K.length + F.length
  le : e ≤ K.length
  rl : r ≤ F.length
  head : A.take e = K.take e
  srt : Srt (A.drop (e + r))
  lo : ∀ x ∈ K.take e, ∀ t ∈ A.drop (e + r), lt x t = true
  fl : ∀ x ∈ F.take r, ∀ t ∈ A.drop (e + r), lt x t = true
  mem : ∀ t, t ∈ A.drop (e + r) ↔ t ∈ K.drop e ∨ t ∈ F.drop r
theorem ak_start (K F : List ByteArray) : AK K F (K ++ F) K.length F.length := by
  have e : (K ++ F).drop (K.length + F.length) = [] := List.drop_of_length_le (by simp)
  exact ⟨by simp, Nat.le_refl _, Nat.le_refl _, by simp, by rw [e]; exact List.Pairwise.nil, by rw [e]; simp, by rw [e]; simp, by rw [e]; simp⟩
theorem ak_end {K F A : List ByteArray} {e : Nat} (h : AK K F A e 0) (hK : Srt K) : Srt A ∧ ∀ t, t ∈ A ↔ t ∈ K ∨ t ∈ F := by
  have hA : A = K.take e ++ A.drop e := by conv => lhs; rw [← List.take_append_drop e A, h.head]
  have h1 := h.srt
  have h2 := h.lo
  have h3 := h.mem
  simp only [Nat.add_zero] at h1 h2 h3
  constructor
  · rw [hA]
    refine List.pairwise_append.2 ⟨List.Pairwise.sublist (List.take_sublist _ _) hK, h1, fun x hx t ht => h2 x hx t ht⟩
  · intro t
    rw [hA, List.mem_append, h3 t]
    simp only [List.drop_zero]
    conv => rhs; rw [← List.take_append_drop e K, List.mem_append]
    exact or_assoc.symm
/-- The row behind one more key. -/
def akNext (A : List ByteArray) (e r p : Nat) (key : ByteArray) : List ByteArray := A.take (p + r) ++ key :: ((A.take e).drop p ++ A.drop (e + (r + 1)))
theorem srt_take {K : List ByteArray} (h : Srt K) (e : Nat) : Srt (K.take e) := List.Pairwise.sublist (List.take_sublist _ _) h
theorem srt_drop {K : List ByteArray} (h : Srt K) (e : Nat) : Srt (K.drop e) := List.Pairwise.sublist (List.drop_sublist _ _) h
theorem ak_step {K F A : List ByteArray} {e r : Nat} (h : AK K F A e (r + 1)) (hK : Srt K) (hF : Srt F) (hd : ∀ x ∈ F, x ∉ K) {key : ByteArray} (hk : F[r]? = some key) {p : Nat} (hp : p = lb (A.take e) key) : AK K F (akNext A e r p key) p r := by
  have hr : r < F.length := h.rl
  have hFr : F[r] = key := by rw [List.getElem?_eq_getElem hr] at hk; exact Option.some.inj hk
  have hsT := srt_take hK e
  rw [h.head] at hp
  have hpe : p ≤ e := by rw [hp]; exact Nat.le_trans (lb_le _ _) (by rw [List.length_take]; omega)
  have hle := h.le
  have hlen := h.len
  have hAe : p + r ≤ A.length := by omega
  have hdr : (akNext A e r p key).drop (p + r) = key :: ((K.take e).drop p ++ A.drop (e + (r + 1))) := by
    unfold akNext
    rw [List.drop_append_of_le_length (by rw [List.length_take]; omega), List.drop_of_length_le (by rw [List.length_take]; omega), h.head]
    rfl
  have hkF : key ∈ F := by rw [← hFr]; exact List.getElem_mem hr
  have hkt : ∀ t ∈ A.drop (e + (r + 1)), lt key t = true := fun t ht => h.fl key (by rw [← hFr]; exact List.mem_take_iff_getElem.2 ⟨r, by omega, rfl⟩) t ht
  have hmid : ∀ x ∈ (K.take e).drop p, lt key x = true := fun x hx => by
    have h1 := lb_drop hsT (t := key) x (by rw [← hp]; exact hx)
    cases hq : lt key x with
    | true => rfl
    | false =>
      have := lt_total h1 hq
      exact absurd (List.mem_of_mem_take (List.mem_of_mem_drop hx)) (by rw [this]; exact hd key hkF)
  have hmt : ∀ x ∈ (K.take e).drop p, ∀ t ∈ A.drop (e + (r + 1)), lt x t = true := fun x hx t ht => h.lo x (List.mem_of_mem_drop hx) t ht
  have hhead : ∀ x ∈ K.take p, lt x key = true := fun x hx => lb_take hsT (t := key) x (by rw [← hp, List.take_take, Nat.min_eq_left hpe]; exact hx)
  have hsplit : K.drop p = (K.take e).drop p ++ K.drop e := by
    conv => lhs; rw [← List.take_append_drop e K]
    rw [List.drop_append_of_le_length (by rw [List.length_take]; omega)]
  refine ⟨?_, by omega, by omega, ?_, ?_, ?_, ?_, ?_⟩
  · unfold akNext
    simp only [List.length_append, List.length_take, List.length_cons, List.length_drop]
    omega
  · unfold akNext
    rw [List.take_append_of_le_length (by rw [List.length_take]; omega), List.take_take, Nat.min_eq_left (by omega)]
    have := congrArg (List.take p) h.head
    rw [List.take_take, List.take_take, Nat.min_eq_left hpe] at this
    exact this
  · rw [hdr]
    refine List.pairwise_cons.2 ⟨fun t ht => ?_, List.pairwise_append.2 ⟨srt_drop hsT p, h.srt, hmt⟩⟩
    rcases List.mem_append.1 ht with ht | ht
    · exact hmid t ht
    · exact hkt t ht
  · rw [hdr]
    intro x hx t ht
    have hxk := hhead x hx
    rcases List.mem_cons.1 ht with rfl | ht
    · exact hxk
    rcases List.mem_append.1 ht with ht | ht
    · exact lt_trans hxk (hmid t ht)
    · exact lt_trans hxk (hkt t ht)
  · rw [hdr]
    intro x hx t ht
    have hxk : lt x key = true := by
      obtain ⟨i, hi, rfl⟩ := List.mem_take_iff_getElem.1 hx
      rw [← hFr]
      exact (List.pairwise_iff_getElem.1 hF) i r (by omega) hr (by omega)
    rcases List.mem_cons.1 ht with rfl | ht
    · exact hxk
    rcases List.mem_append.1 ht with ht | ht
    · exact lt_trans hxk (hmid t ht)
    · exact lt_trans hxk (hkt t ht)
  · intro t
    rw [hdr, List.mem_cons, List.mem_append, h.mem t, hsplit, List.mem_append, List.drop_eq_getElem_cons hr, List.mem_cons, hFr]
    constructor
    · rintro (h1 | h1 | h1 | h1)
      · exact .inr (.inl h1)
      · exact .inl (.inl h1)
      · exact .inl (.inr h1)
      · exact .inr (.inr h1)
    · rintro ((h1 | h1) | h1 | h1)
      · exact .inr (.inl h1)
      · exact .inr (.inr (.inl h1))
      · exact .inl h1
      · exact .inr (.inr (.inr h1))
theorem KE_cs (L : List ByteArray) : KE.cs L = L.map Value.string := by
  induction L with
  | nil => rfl
  | cons x r ih =>
    rw [Enc.cs_cons, ih]
    rfl
/-- From place i up to place j. -/
theorem slice_K (t : TypeId) (ht : Try.prog.underlying t = some (.slice 9)) (a : Option Addr) (n cap i j : Nat) (hi : i ≤ j) (hj : j ≤ n) (hn : n ≤ cap) (W : World) :
    (Instr.sliceAt t (.slice a n cap) (some (.int .i64 (i : Int))) (some (.int .i64 (j : Int))) none).run Try.prog W = .ok (.slice (if cap = i then a else a.map (·.add i)) (j - i) (cap - i)) W := by
  have e1 : (i : Int) ≤ (j : Int) := by omega
  have e2 : (j : Int) ≤ (cap : Int) := by omega
  have hsz := Try.size9
  cases hq : Try.prog.info? 9 with
  | none => simp [hq] at hsz
  | some k =>
    have hk : k.size = 1 := by simpa [hq] using hsz
    simp [Instr.sliceAt, Instr.slice, run_underlying ht, Instr.sliceBounds, run_sliceBound, e1, e2, sizeOf, typeInfo, hq, hk]
theorem OwnG.setK {w : World} {g n cap : Nat} {A : List ByteArray} (h : OwnG KE w 0 9 (.slice (some ⟨g, 0, none⟩) n cap) A) (i : Nat) (X : List ByteArray) (hi : i + X.length ≤ A.length) :
    OwnG KE (w.setCells g i (KE.cs X)) 0 9 (.slice (some ⟨g, 0, none⟩) n cap) (A.take i ++ X ++ A.drop (i + X.length)) ∧ But g w (w.setCells g i (KE.cs X)) := by
  refine ⟨?_, But.setCells g _ i w⟩
  have hl := h.rd.len
  rcases Nat.eq_zero_or_pos A.length with h0 | hp
  · have hX : X = [] := List.eq_nil_of_length_eq_zero (by omega)
    subst hX
    simp only [Enc.cs_nil, World.setCells, List.append_nil, List.length_nil, Nat.add_zero, List.take_append_drop]
    exact h
  obtain ⟨g', cap', cur, e, hB, hb, ht, hc, h1, h2⟩ := h.blk hp
  simp only [Value.slice.injEq, Option.some.injEq, Addr.mk.injEq, and_true] at e
  obtain ⟨rfl, rfl, rfl⟩ := e
  have hcx : (KE.cs X).length = X.length := by rw [KE_cs]; simp
  have h3 : i + (KE.cs X).length ≤ cur.length := by rw [hcx, hc]; show i + X.length ≤ cap * 1; omega
  have hb2 := Blk.over (KE.cs X) hb i h3
  have hlen : (A.take i ++ X ++ A.drop (i + X.length)).length = A.length := by simp; omega
  have := OwnG.of_blk (E := KE) (B := 0) (L := A.take i ++ X ++ A.drop (i + X.length)) hb2 (Nat.zero_le _) ?_ (by rw [over_length h3]; exact hc) (by rw [hlen]; exact h1) h2
  · rw [hlen] at this
    exact this
  · rw [hlen]
    have ht' : cur.take A.length = A.map Value.string := by have := ht; rw [KE_cs] at this; simpa [KE] using this
    show (over cur i (KE.cs X)).take (A.length * 1) = _
    rw [Nat.mul_one, KE_cs, KE_cs]
    unfold over
    simp only [List.length_map, List.map_append, List.map_take, List.map_drop, ← ht']
    apply List.ext_getElem?
    intro q
    simp only [List.getElem?_take, List.getElem?_append, List.length_append, List.length_take, List.length_map, List.getElem?_drop]
    have hcl : A.length ≤ cur.length := by rw [hc]; show A.length ≤ cap * 1; omega
    split <;> split <;> (try split) <;> (try split) <;> (try split) <;> (try split) <;> (try (exfalso; omega)) <;> (try rfl) <;> (try (rw [List.getElem?_eq_none (by omega)])) <;> (congr 1; omega)
/-- copy(keys[i:], keys[p:e]). -/
theorem copy_K (tk : TypeId) (ht : Try.prog.underlying tk = some (.slice 9)) {w : World} {g N cap : Nat} {A : List ByteArray} (h : OwnG KE w 0 9 (.slice (some ⟨g, 0, none⟩) N cap) A) (i p e : Nat) (hpe : p ≤ e) (heN : e ≤ N) (hi : i + (e - p) ≤ N) (ty : TypeId) :
    ∃ w', (Builtin.copy_ #[tk, tk] ty #[.slice (if cap = i then some ⟨g, 0, none⟩ else (some ⟨g, 0, none⟩ : Option Addr).map (·.add i)) (N - i) (cap - i), .slice (if cap = p then some ⟨g, 0, none⟩ else (some ⟨g, 0, none⟩ : Option Addr).map (·.add p)) (e - p) (cap - p)]).run Try.prog w = .ok (goInt ((e - p : Nat) : Int)) w' ∧
      OwnG KE w' 0 9 (.slice (some ⟨g, 0, none⟩) N cap) (A.take i ++ (A.take e).drop p ++ A.drop (i + (e - p))) ∧ But g w w' := by
  have hl := h.rd.len
  have hcap := h.rd.cap
  have hX : ((A.take e).drop p).length = e - p := by rw [List.length_drop, List.length_take]; omega
  have hset := h.setK i ((A.take e).drop p) (by rw [hX]; omega)
  rw [hX] at hset
  refine ⟨_, ?_, hset⟩
  have hsz := Try.size9
  have hmin : Nat.min (e - p) (N - i) = e - p := Nat.min_eq_left (by omega)
  have hcs : (KE.cs ((A.take e).drop p)).length = e - p := by rw [KE_cs, List.length_map, hX]
  cases hq : Try.prog.info? 9 with
  | none => simp [hq] at hsz
  | some k =>
    have hk : k.size = 1 := by simpa [hq] using hsz
    rcases Nat.eq_zero_or_pos (e - p) with h0 | hp
    · have hnil : (A.take e).drop p = [] := List.eq_nil_of_length_eq_zero (by rw [hX]; exact h0)
      rw [h0] at hmin
      rw [hnil, h0]
      have hld : ∀ (x : Addr), (loadCells x 0).run Try.prog w = .ok #[] w := fun x => run_loadCells_none w x
      split <;> split <;> simp [Builtin.copy_, run_underlying ht, Builtin.lenOf, Builtin.firstCells, sizeOf, typeInfo, hq, storeCells, hld, World.setCells, Enc.cs_nil]
    · obtain ⟨g', cap', cur, e', hB, hb, htk, hc, h1, h2⟩ := h.blk (by omega)
      simp only [Value.slice.injEq, Option.some.injEq, Addr.mk.injEq, and_true] at e'
      obtain ⟨rfl, rfl, rfl⟩ := e'
      have hcl : cur.length = cap := by rw [hc]; show cap * 1 = cap; omega
      rw [if_neg (by omega), if_neg (by omega)]
      have hst := run_storeCells_cells (P := Try.prog) g i (KE.cs ((A.take e).drop p)) 0 w (fun j hj => by rw [hb.cell (v := cur[i + 0 + j]'(by rw [hcs] at hj; omega)) (by simp)]; rfl) (fun j _ => hb.frozen _) (Enc.cs_one _)
      have hld := run_loadCells_list (P := Try.prog) w ⟨g, p, none⟩ (KE.cs ((A.take e).drop p)) (fun j u hj => by
        rw [Addr.add_mid]
        refine hb.cell ?_
        have hjl : j < e - p := by have := (List.getElem?_eq_some_iff.1 hj).1; rw [hcs] at this; exact this
        have ht' : cur.take A.length = A.map Value.string := by have := htk; rw [KE_cs] at this; simpa [KE] using this
        rw [KE_cs, List.getElem?_map, List.getElem?_drop, List.getElem?_take_of_lt (by omega), ← List.getElem?_map, ← ht', List.getElem?_take_of_lt (by omega)] at hj
        exact hj)
      rw [hcs] at hld
      simp only [Nat.add_zero] at hst
      simp only [Option.map_some, Addr.add_lit]
      simp [Builtin.copy_, run_underlying ht, Builtin.lenOf, Builtin.firstCells, sizeOf, typeInfo, hq, hk, hmin, hld, hst]
end Go.Proofs.Ytgaoionnfkbhaaa
