/-
  Texts that ride together: ChP ChM ChA ChB ChC ChD ChE.
-/
import Derived.Test.YtcicekggeampcaaGreatGK
import Derived.Test.YtcicekggeampcaaGreatGG
/-
  What one key had, plain: versions, which may stand behind which, what there was at a snapshot, trimmed and cut.
-/
namespace Go.Proofs.YtcicekggeampcaaGreat
/-- A version: its place, its value, whether it is dead. -/
abbrev Ver : Type := Int × ByteArray × Bool
/-- The cells of a version. -/
def VC (v : Ver) : List Value := [.int .i64 v.1, .string v.2.1, .bool v.2.2]
def VCs (L : List Ver) : List Value := L.flatMap VC
def zv : Ver := (0, ⟨#[]⟩, false)
theorem VC_length (v : Ver) : (VC v).length = 3 := rfl
theorem VC_one (v : Ver) : ∀ u ∈ VC v, u.oneCell' = true := by
  intro u hu
  simp only [VC, List.mem_cons, List.not_mem_nil, or_false] at hu
  rcases hu with rfl | rfl | rfl <;> rfl
theorem VCs_nil : VCs [] = [] := rfl
theorem VCs_cons (v : Ver) (L : List Ver) : VCs (v :: L) = VC v ++ VCs L := rfl
theorem VCs_append (L M : List Ver) : VCs (L ++ M) = VCs L ++ VCs M := by simp [VCs]
theorem VCs_length : ∀ (L : List Ver), (VCs L).length = L.length * 3
  | [] => rfl
  | v :: L => by rw [VCs_cons, List.length_append, VC_length, VCs_length L, List.length_cons]; omega
theorem VCs_one (L : List Ver) : ∀ u ∈ VCs L, u.oneCell' = true := by
  intro u hu
  obtain ⟨v, _, h⟩ := List.mem_flatMap.1 hu
  exact VC_one v u h
theorem VCs_take : ∀ (L : List Ver) (k : Nat), VCs (L.take k) = (VCs L).take (k * 3)
  | [], k => by simp [VCs]
  | v :: L, 0 => by simp [VCs]
  | v :: L, k + 1 => by
    rw [List.take_succ_cons, VCs_cons, VCs_cons, VCs_take L k, List.take_append, VC_length, List.take_of_length_le (l := VC v) (by rw [VC_length]; omega)]
    congr 2
    omega
theorem VCs_drop : ∀ (L : List Ver) (k : Nat), VCs (L.drop k) = (VCs L).drop (k * 3)
  | [], k => by simp [VCs]
  | v :: L, 0 => by simp [VCs]
  | v :: L, k + 1 => by
    rw [List.drop_succ_cons, VCs_cons, VCs_drop L k, List.drop_append, VC_length, List.drop_of_length_le (l := VC v) (by rw [VC_length]; omega), List.nil_append]
    congr 1
    omega
theorem VCs_get {L : List Ver} {j : Nat} (h : j < L.length) {i : Nat} {u : Value} (hi : (VC L[j])[i]? = some u) : (VCs L)[j * 3 + i]? = some u := by
  have e : VCs L = VCs (L.take j) ++ (VC L[j] ++ VCs (L.drop (j + 1))) := by
    rw [← VCs_cons, ← VCs_append, ← List.drop_eq_getElem_cons h, List.take_append_drop]
  have hlt := (List.getElem?_eq_some_iff.1 hi).1
  have hl : (VCs (L.take j)).length = j * 3 := by rw [VCs_length, List.length_take]; congr 1; omega
  rw [e, List.getElem?_append_right (by omega), hl, Nat.add_sub_cancel_left, List.getElem?_append_left hlt]
  exact hi
/-- May v stand behind a version of that place? -/
def fol (v : Ver) (last : Int) : Bool := decide (last < v.1) && (!v.2.2 || v.2.1.toList.isEmpty)
/-- May these be, behind a version of that place? -/
def gd : Int → List Ver → Bool
  | _, [] => true
  | last, v :: L => fol v last && gd v.1 L
/-- The last place. -/
def lst (L : List Ver) : Int := if gd 0 L = true then (L.getLast?.map (·.1)).getD 0 else 0
/-- Those up to a snapshot; those behind it. -/
def upto (n : Int) (L : List Ver) : List Ver := L.filter fun v => decide (v.1 ≤ n)
def past (n : Int) (L : List Ver) : List Ver := L.filter fun v => decide (n < v.1)
def getP (L : List Ver) (n : Int) : Ver × Bool :=
  if gd 0 L = true then (match (upto n L).getLast? with | none => (zv, false) | some v => if v.2.2 = true then (zv, false) else (v, true)) else (zv, false)
def sinceP (L : List Ver) (n : Int) : Nat := if gd 0 L = true then (past n L).length else 0
def cutP (L : List Ver) (n : Int) : List Ver := if gd 0 L = true then upto n L else []
/-- The last of those up to a snapshot, if it is not dead. -/
def liveL (M : List Ver) : List Ver := match M.getLast? with | none => [] | some v => if v.2.2 = true then [] else [v]
def trimP (L : List Ver) (n : Int) : List Ver := if gd 0 L = true then liveL (upto n L) ++ past n L else []
def putOk (L : List Ver) (v : Ver) : Bool := gd 0 L && fol v (lst L)
def putP (L : List Ver) (v : Ver) : List Ver := if putOk L v = true then L ++ [v] else L

/-- Places rise. -/
def Rise (L : List Ver) : Prop := L.Pairwise fun a b => a.1 < b.1
theorem gd_rise : ∀ {L : List Ver} {last : Int}, gd last L = true → Rise L ∧ ∀ v ∈ L, last < v.1
  | [], _, _ => ⟨List.Pairwise.nil, fun v h => by cases h⟩
  | v :: L, last, h => by
    rw [gd, Bool.and_eq_true] at h
    obtain ⟨h1, h2⟩ := h
    obtain ⟨r, hr⟩ := gd_rise h2
    have hv : last < v.1 := by
      unfold fol at h1
      simp only [Bool.and_eq_true, decide_eq_true_eq] at h1
      exact h1.1
    refine ⟨List.Pairwise.cons (fun u hu => hr u hu) r, fun u hu => ?_⟩
    rcases List.mem_cons.1 hu with rfl | hu
    · exact hv
    · exact Int.lt_trans hv (hr u hu)
theorem split_rise (n : Int) : ∀ {L : List Ver}, Rise L → L = upto n L ++ past n L
  | [], _ => rfl
  | v :: L, h => by
    obtain ⟨h1, h2⟩ := List.pairwise_cons.1 h
    have ih := split_rise n h2
    by_cases hv : v.1 ≤ n
    · have e1 : upto n (v :: L) = v :: upto n L := by simp [upto, hv]
      have e2 : past n (v :: L) = past n L := by simp [past, hv]
      rw [e1, e2, List.cons_append, ← ih]
    · have e1 : upto n (v :: L) = upto n L := by simp [upto, hv]
      have e2 : past n (v :: L) = v :: past n L := by simp [past, show n < v.1 by omega]
      have e3 : upto n L = [] := by
        unfold upto
        rw [List.filter_eq_nil_iff]
        intro u hu
        have := h1 u hu
        simp
        omega
      have e4 : past n L = L := by rw [e3] at ih; exact ih.symm
      rw [e1, e2, e3, e4, List.nil_append]
theorem upto_le (n : Int) (L : List Ver) : (upto n L).length ≤ L.length := List.length_filter_le _ _
theorem upto_at {n : Int} {L : List Ver} (h : Rise L) {i : Nat} (hi : i < L.length) : (decide (n < L[i].1)) = decide ((upto n L).length ≤ i) := by
  have e := split_rise n h
  by_cases hlt : i < (upto n L).length
  · have e2 : L[i] = (upto n L)[i] := by
      have : L[i]? = (upto n L)[i]? := by
        conv => lhs; rw [e]
        rw [List.getElem?_append_left hlt]
      rw [List.getElem?_eq_getElem hi, List.getElem?_eq_getElem hlt] at this
      exact Option.some.inj this
    have hm : L[i] ∈ upto n L := by rw [e2]; exact List.getElem_mem hlt
    unfold upto at hm
    rw [List.mem_filter] at hm
    have := hm.2
    simp only [decide_eq_true_eq] at this
    rw [decide_eq_decide]
    omega
  · have hl : L.length = (upto n L).length + (past n L).length := by conv => lhs; rw [e, List.length_append]
    have e2 : L[i]? = (past n L)[i - (upto n L).length]? := by
      conv => lhs; rw [e]
      rw [List.getElem?_append_right (by omega)]
    rw [List.getElem?_eq_getElem hi, List.getElem?_eq_getElem (by omega)] at e2
    have hm : L[i] ∈ past n L := by rw [Option.some.inj e2]; exact List.getElem_mem _
    unfold past at hm
    rw [List.mem_filter] at hm
    have := hm.2
    simp only [decide_eq_true_eq] at this
    rw [decide_eq_decide]
    omega
theorem drop_upto {n : Int} {L : List Ver} (h : Rise L) : L.drop (upto n L).length = past n L := by
  conv => lhs; arg 2; rw [split_rise n h]
  simp
end Go.Proofs.YtcicekggeampcaaGreat

/-
  Slices of versions in memory: what one reads as, what the call owns; make, copy, append, parts of them.
-/
namespace Go.Proofs.YtcicekggeampcaaGreat
open Go.RowKit
/-- The slice value v reads as the versions L. -/
def RdV (w : World) (v : Value) (L : List Ver) : Prop :=
  ∃ a cap, v = .slice a L.length cap ∧ L.length ≤ cap ∧ cap ≤ maxLen ∧ (a = none → cap = 0) ∧
    (0 < L.length → ∃ b off, a = some ⟨b, off, none⟩ ∧ b < w.heap.size ∧ ∀ j u, (VCs L)[j]? = some u → w.cell? ⟨b, off + j, none⟩ = some u)
theorem RdV_nil (w : World) : RdV w (.slice none 0 0) [] := ⟨none, 0, rfl, by simp, by simp, fun _ => rfl, fun h => by simp at h⟩
theorem RdV.kept {w w' : World} {v : Value} {L : List Ver} (h : RdV w v L) (hb : Below w.heap.size w w') : RdV w' v L := by
  obtain ⟨a, cap, rfl, h1, h2, h3, h4⟩ := h
  refine ⟨a, cap, rfl, h1, h2, h3, fun hl => ?_⟩
  obtain ⟨b, off, rfl, hlt, hc⟩ := h4 hl
  exact ⟨b, off, rfl, Nat.lt_of_lt_of_le hlt hb.size, fun j u hj => (hb.cell (p := ⟨b, off + j, none⟩) hlt).trans (hc j u hj)⟩
theorem RdV.slice {w : World} {v : Value} {L : List Ver} (h : RdV w v L) : ∃ a cap, v = .slice a L.length cap := by
  obtain ⟨a, cap, rfl, -⟩ := h
  exact ⟨a, cap, rfl⟩
/-- Where the versions lie. -/
theorem RdV.nth {w : World} {a : Option Addr} {n cap : Nat} {L : List Ver} (h : RdV w (.slice a n cap) L) (hp : 0 < n) :
    ∃ b off, a = some ⟨b, off, none⟩ ∧ b < w.heap.size ∧ ∀ j (hj : j < L.length), w.rangeAt b (off + j * 3) (VC L[j]) := by
  obtain ⟨a', cap', e, h1, h2, h3, h4⟩ := h
  simp only [Value.slice.injEq] at e
  obtain ⟨rfl, rfl, rfl⟩ := e
  obtain ⟨b, off, rfl, hlt, hc⟩ := h4 hp
  refine ⟨b, off, rfl, hlt, fun j hj i u hi => ?_⟩
  rw [Nat.add_assoc]
  exact hc (j * 3 + i) u (VCs_get hj hi)
theorem RdV.len {w : World} {a : Option Addr} {n cap : Nat} {L : List Ver} (h : RdV w (.slice a n cap) L) : L.length = n := by
  obtain ⟨a', cap', e, _⟩ := h
  simp only [Value.slice.injEq] at e
  exact e.2.1.symm
theorem RdV.cap {w : World} {a : Option Addr} {n cap : Nat} {L : List Ver} (h : RdV w (.slice a n cap) L) : n ≤ cap := by
  obtain ⟨a', cap', e, h1, _⟩ := h
  simp only [Value.slice.injEq] at e
  obtain ⟨_, rfl, rfl⟩ := e
  exact h1
theorem RdV.max {w : World} {a : Option Addr} {n cap : Nat} {L : List Ver} (h : RdV w (.slice a n cap) L) : cap ≤ 9223372036854775807 := by
  obtain ⟨a', cap', e, h1, h2, _⟩ := h
  simp only [Value.slice.injEq] at e
  obtain ⟨_, rfl, rfl⟩ := e
  simpa [maxLen] using h2
/-- The slice value v, of a row of elements of type e from block B on, is the call's own and holds the versions L. -/
def OwnV (w : World) (B : Nat) (e : TypeId) (v : Value) (L : List Ver) : Prop := w.ownsRow B e 3 v L.length (VCs L)
theorem OwnV.rd {w : World} {B : Nat} {e : TypeId} {v : Value} {L : List Ver} (h : OwnV w B e v L) : RdV w v L := by
  have hc := h
  obtain ⟨h1, h2⟩ := h
  rcases h2 with ⟨rfl, hn⟩ | ⟨g, cap, cur, rfl, hg, hh, hnc, hcm, hcs, htk⟩
  · have : L = [] := List.eq_nil_of_length_eq_zero hn
    subst this
    exact RdV_nil w
  · refine ⟨some ⟨g, 0, none⟩, cap, rfl, hnc, hcm, fun h => by simp at h, fun _ => ⟨g, 0, rfl, ?_, fun j u hj => ?_⟩⟩
    · exact (Array.getElem?_eq_some_iff.1 hh).1
    · have := World.ownsRow.cells hc (g := g) rfl j u hj
      simpa [Addr.add_lit] using this
theorem ownV_nil (w : World) (B : Nat) (e : TypeId) : OwnV w B e (.slice none 0 0) [] := ⟨rfl, .inl ⟨rfl, rfl⟩⟩
theorem OwnV.kept {w w' : World} {B : Nat} {e : TypeId} {v : Value} {L : List Ver} (h : OwnV w B e v L) (hb : Below w.heap.size w w') : OwnV w' B e v L := by
  obtain ⟨h1, h2⟩ := h
  refine ⟨h1, ?_⟩
  rcases h2 with h2 | ⟨g, cap, cur, hv, hg, hh, r⟩
  · exact Or.inl h2
  · have hlt : g < w.heap.size := (Array.getElem?_eq_some_iff.1 hh).1
    exact Or.inr ⟨g, cap, cur, hv, hg, by rw [hb.block g hlt]; exact hh, r⟩
theorem OwnV.mono {w : World} {B B' : Nat} {e : TypeId} {v : Value} {L : List Ver} (h : OwnV w B e v L) (hB : B' ≤ B) : OwnV w B' e v L := by
  obtain ⟨h1, h2⟩ := h
  refine ⟨h1, ?_⟩
  rcases h2 with h2 | ⟨g, cap, cur, hv, hg, r⟩
  · exact Or.inl h2
  · exact Or.inr ⟨g, cap, cur, hv, Nat.le_trans hB hg, r⟩
theorem own_blk {w : World} {B b : Nat} {e : TypeId} {L : List Ver} (h : Blk w b e (VCs L)) (hB : B ≤ b) (hm : L.length ≤ maxLen) : OwnV w B e (.slice (some ⟨b, 0, none⟩) L.length L.length) L :=
  ⟨VCs_length L, .inr ⟨b, L.length, (VCs L).toArray, rfl, hB, h, Nat.le_refl _, hm, by simp [VCs_length], by simp [List.take_of_length_le, VCs_length]⟩⟩
theorem RdV.src {P : Program} {w : World} {v : Value} {L : List Ver} (h : RdV w v L) (t e : TypeId) (hk : P.underlying t = some (.slice e)) : Src P 3 t v L.length (VCs L) w := by
  obtain ⟨a, cap, rfl, h1, h2, h3, h4⟩ := h
  cases a with
  | none =>
    have := h3 rfl
    have hl : L = [] := List.eq_nil_of_length_eq_zero (by omega)
    subst hl
    exact Src.ofNil w hk cap
  | some x =>
    refine Src.ofSlice w hk x L.length cap (VCs L) (VCs_length L) (fun j u hj => ?_) (VCs_one L)
    have hjl : j < (VCs L).length := (List.getElem?_eq_some_iff.1 hj).1
    rw [VCs_length] at hjl
    obtain ⟨b, off, e, _, hc⟩ := h4 (by omega)
    simp only [Option.some.injEq] at e
    subst e
    rw [Addr.add_lit]
    exact hc j u hj
/-- append of versions. -/
theorem wpList_append_vers {P : Program} (w : World) {ops : Array Oper} {rest : List Oper} {o : Oper} {a : Act} {Q : Exit → Act → World → Prop} (hgd : o.guard = none) (s x : Operand) (t tx : TypeId)
    (ho : o.op = .call { callee := .builtin .append, args := #[s, x], argTypes := #[t, tx] })
    (base : Nat) (e : TypeId) (i : TypeInfo) (ht : P.underlying t = some (.slice e)) (hi : P.info? e = some i) (hz : i.zero = some (.agg (VC zv).toArray))
    (hsize : i.size = 3) (hby : i.bytes = 32)
    (v : Value) (L : List Ver) (hv : a.eval s = v) (hown : OwnV w base e v L)
    (xv : Value) (M : List Ver) (hx : a.eval x = xv) (hs : Src P 3 tx xv M.length (VCs M) w)
    (hlen : L.length + M.length ≤ 4398046511104) (hbase : base ≤ w.heap.size)
    (h : ∀ v' w', OwnV w' base e v' (L ++ M) → Below base w w' → wpList P ops Q rest (a.put o.dst v') w') : wpList P ops Q (o :: rest) a w := by
  refine wpList_append_mine w hgd s x t tx ho base e i _ 3 32 ht hi hz hsize hby rfl v L.length (VCs L) hv hown xv M.length (VCs M) hx hs (by simp only [maxLen]; omega) (by omega) hbase ?_
  intro v' w' h1 h2
  refine h v' w' ?_ (below_of_grown w hown h2 hbase)
  unfold OwnV
  rw [List.length_append, VCs_append]
  exact h1
theorem replicate_VCs (n : Nat) : madeCells (VC zv).toArray (n * 3) = (VCs (List.replicate n zv)).toArray := by
  apply Array.ext'
  apply List.ext_getElem?
  intro j
  by_cases hj : j < n * 3
  · have h3 : j / 3 < (List.replicate n zv).length := by rw [List.length_replicate]; omega
    have hm : j % 3 < (VC zv).length := by rw [VC_length]; omega
    have := VCs_get h3 (i := j % 3) (u := (VC zv)[j % 3]) (by rw [List.getElem_replicate]; exact List.getElem?_eq_getElem hm)
    rw [show j / 3 * 3 + j % 3 = j by omega] at this
    rw [List.toList_toArray, this]
    have e : ∀ k (h : k < (VC zv).length), (VC zv)[k]?.getD default = (VC zv)[k] := fun k h => by rw [List.getElem?_eq_getElem h]; rfl
    have := e (j % 3) hm
    simpa [madeCells, hj, VC] using this
  · have h1 : (madeCells (VC zv).toArray (n * 3)).toList[j]? = none := by simp [madeCells, hj]
    rw [h1, List.getElem?_eq_none (by rw [List.toList_toArray, VCs_length, List.length_replicate]; omega)]
/-- make of versions. -/
theorem wpList_make_vers {P : Program} (w : World) {ops : Array Oper} {rest : List Oper} {o : Oper} {a : Act} {Q : Exit → Act → World → Prop}
    (hg : o.guard = none) (l c : Operand) (t e : TypeId) (hop : o.op = Op.makeSlice t l c)
    (i : TypeInfo) (h1 : P.underlying t = some (.slice e)) (h2 : P.info? e = some i) (h3 : i.zero = some (.agg (VC zv).toArray)) (h4 : i.size = 3) (h5 : i.bytes = 32)
    (kl kc : IntKind) (L C : Int) (n m : Nat) (hl : a.eval l = .int kl L) (hc : a.eval c = .int kc C) (hL : L = (n : Int)) (hC : C = (m : Int)) (hnm : n ≤ m) (b2 : m ≤ 8796093022208)
    (hK : wpList P ops Q rest (a.put o.dst (.slice (some ⟨w.heap.size, 0, none⟩) n m)) (w.alloc (.cells (VCs (List.replicate m zv)).toArray e))) :
    wpList P ops Q (o :: rest) a w := by
  refine wpList_plain hg fun K hK' => ?_
  subst hL
  subst hC
  have hrun := run_make (P := P) w t e i _ h1 h2 h3 kl kc n m (by omega) (by omega) (by rw [h5]; omega) (by omega)
  have e' : madeCells (Value.agg (VC zv).toArray).cells ((m : Int).toNat * i.size) = (VCs (List.replicate m zv)).toArray := by
    rw [h4, Int.toNat_natCast]
    exact replicate_VCs m
  rw [e'] at hrun
  simp only [Int.toNat_natCast] at hrun
  unfold Oper.wp
  simp only [execOp, hop, hl, hc, hrun, Result.andThen, Sem.run_bind, Sem.run_pure]
  exact hK' _ _ hK
/-- copy of versions to the head of a block. -/
theorem wpList_copy_vers {P : Program} {w : World} {ops : Array Oper} {rest : List Oper} {o : Oper} {a : Act} {Q : Exit → Act → World → Prop} (hgd : o.guard = none) (d s : Operand) (dT sT : TypeId)
    (ho : o.op = .call { callee := .builtin .copy, args := #[d, s], argTypes := #[dT, sT] }) (elem : TypeId) (hu : P.underlying dT = some (.slice elem)) (hsz : (P.info? elem).map (·.size) = some 3)
    (b dLen dCap : Nat) (v : Value) (L : List Ver) (hd : a.eval d = .slice (some ⟨b, 0, none⟩) dLen dCap) (hs : a.eval s = v) (hr : RdV w v L) (hl : L.length ≤ dLen)
    (T : TypeId) (cs : List Value) (hB : Blk w b T cs) (hfit : dLen * 3 ≤ cs.length)
    (h : wpList P ops Q rest (a.put o.dst (goInt L.length)) (w.setCells b 0 (VCs L))) : wpList P ops Q (o :: rest) a w := by
  obtain ⟨ad, cap, rfl, h1, h2, h3, h4⟩ := hr
  have hrun : (Builtin.copy_ #[dT, sT] o.type #[.slice (some ⟨b, 0, none⟩) dLen dCap, .slice ad L.length cap]).run P w = .ok (goInt L.length) (w.setCells b 0 (VCs L)) := by
    have hmin : Nat.min L.length dLen = L.length := Nat.min_eq_left hl
    cases hq : P.info? elem with
    | none => simp [hq] at hsz
    | some i =>
      have hi : i.size = 3 := by simpa [hq] using hsz
      have hc3 := VCs_length L
      have hst := run_storeCells_cells (P := P) b 0 (VCs L) 0 w (fun j hj => by rw [hB.cell (v := cs[0 + 0 + j]'(by omega)) (by simp)]; rfl) (fun j _ => hB.frozen _) (VCs_one L)
      by_cases hp : 0 < L.length
      · obtain ⟨c, of, rfl, hlt, hc⟩ := h4 hp
        have hld := run_loadCells_list (P := P) w ⟨c, of, none⟩ (VCs L) (fun j u hj => by rw [Addr.add_mid]; exact hc j u hj)
        rw [hc3] at hld
        simp [Builtin.copy_, run_underlying hu, Builtin.lenOf, Builtin.firstCells, sizeOf, typeInfo, hq, hi, hmin, hld, hst]
      · have hL : L = [] := List.eq_nil_of_length_eq_zero (by omega)
        subst hL
        have hld : ∀ (x : Addr), (loadCells x 0).run P w = .ok #[] w := fun x => by simpa using run_loadCells_list (P := P) w x [] (by simp)
        cases ad <;> simp [Builtin.copy_, run_underlying hu, Builtin.lenOf, Builtin.firstCells, sizeOf, typeInfo, hq, storeCells, hld, World.setCells, VCs_nil]
  refine wpList_plain hgd fun K hK => ?_
  unfold Oper.wp
  simp [execOp, ho, resolve, invoke, builtin, hd, hs, hrun, Result.andThen]
  exact hK _ _ h
/-- Versions, from place k on written over. -/
def overV (Z : List Ver) (k : Nat) (X : List Ver) : List Ver := Z.take k ++ X ++ Z.drop (k + X.length)
theorem over_VCs (Z : List Ver) (k : Nat) (X : List Ver) : over (VCs Z) (k * 3) (VCs X) = VCs (overV Z k X) := by
  unfold over overV
  rw [VCs_append, VCs_append, VCs_take, VCs_drop, VCs_length, Nat.add_mul]
theorem Blk.overV {w : World} {b : Nat} {T : TypeId} {Z : List Ver} (h : Blk w b T (VCs Z)) (k : Nat) (X : List Ver) (hk : k + X.length ≤ Z.length) : Blk (w.setCells b (k * 3) (VCs X)) b T (VCs (overV Z k X)) := by
  rw [← over_VCs]
  exact Blk.over (VCs X) h (k * 3) (by rw [VCs_length, VCs_length]; omega)
/-- From place i up to place j. -/
theorem slice_vers {P : Program} {t e : TypeId} (ht : P.underlying t = some (.slice e)) (hsz : (P.info? e).map (·.size) = some 3) (a : Option Addr) (n cap i : Nat) (hi : i ≤ n) (hn : n ≤ cap) :
    ∃ a', (∀ W, (Instr.sliceAt t (.slice a n cap) (some (.int .i64 (i : Int))) none none).run P W = .ok (.slice a' (n - i) (cap - i)) W) ∧
      (∀ w L, RdV w (.slice a n cap) L → RdV w (.slice a' (n - i) (cap - i)) (L.drop i)) := by
  have e1 : (i : Int) ≤ (n : Int) := by omega
  refine ⟨if cap = i then a else a.map (·.add (i * 3)), fun W => ?_, fun w L hr => ?_⟩
  · cases hq : P.info? e with
    | none => simp [hq] at hsz
    | some k =>
      have hk : k.size = 3 := by simpa [hq] using hsz
      simp [Instr.sliceAt, Instr.slice, run_underlying ht, Instr.sliceBounds, run_sliceBound, e1, sizeOf, typeInfo, hq, hk]
  · obtain ⟨a0, cap0, e, h1, h2, h3, h4⟩ := hr
    simp only [Value.slice.injEq] at e
    obtain ⟨rfl, rfl, rfl⟩ := e
    refine ⟨if cap = i then a else a.map (·.add (i * 3)), cap - i, by simp, by simp; omega, by omega, fun h => ?_, fun hp => ?_⟩
    · by_cases hcc : cap = i
      · omega
      · rw [if_neg hcc] at h
        have := h3 (by simpa using h)
        omega
    · simp at hp
      obtain ⟨b, off, rfl, hlt, hcell⟩ := h4 (by omega)
      rw [if_neg (by omega)]
      refine ⟨b, off + i * 3, by simp [Addr.add_mid], hlt, fun j u hj => ?_⟩
      rw [Nat.add_assoc]
      refine hcell (i * 3 + j) u ?_
      rw [← hj, VCs_drop, List.getElem?_drop]
/-- A row of one version. -/
theorem rdV_one (w : World) (T : TypeId) (v : Ver) : RdV (w.alloc (.cells #[.int .i64 v.1, .string v.2.1, .bool v.2.2] T (0, 0))) (.slice (some ⟨w.heap.size, 0, none⟩) 1 1) [v] := by
  refine ⟨some ⟨w.heap.size, 0, none⟩, 1, rfl, by simp, by simp [maxLen], fun h => by simp at h, fun _ => ⟨w.heap.size, 0, rfl, by simp, fun j u hj => ?_⟩⟩
  have := (Blk.new w T (VC v)).cell (j := j) (v := u) (by simpa [VCs] using hj)
  rwa [Nat.zero_add]
theorem Tryz.info115 : (Tryz.prog.info? 115).map (fun i => (i.zero, i.size, i.bytes)) = some (some (.agg (VC zv).toArray), 3, 32) := by kernel_rfl
theorem Tryz.info140 : (Tryz.prog.info? 140).map (fun i => (i.zero, i.size, i.bytes)) = some (some (.agg (VC zv).toArray), 3, 32) := by kernel_rfl
theorem Tryz.size115 : (Tryz.prog.info? 115).map (·.size) = some 3 := by kernel_rfl
theorem Tryz.size140 : (Tryz.prog.info? 140).map (·.size) = some 3 := by kernel_rfl
theorem Zver : ∀ W : World, (zeroValue 115).run Tryz.prog W = .ok (.agg #[.int .i64 0, .string ⟨#[]⟩, .bool false]) W := fun W => by kernel_rfl
theorem Zrver : ∀ W : World, (zeroValue 140).run Tryz.prog W = .ok (.agg #[.int .i64 0, .string ⟨#[]⟩, .bool false]) W := fun W => by kernel_rfl
end Go.Proofs.YtcicekggeampcaaGreat

/-
  chain's mayFollow, Good, and the reference's Good: what the calls do.
-/
namespace Go.Proofs.YtcicekggeampcaaGreat
open Go.RowKit

set_option maxRecDepth 100000 in
theorem mayFollow_any (v : Ver) (last : Int) (w : World) : Calls Tryz.prog 90 #[.agg (VC v).toArray, .int .i64 last] w fun e w' => e = .returned (.bool (fol v last)) ∧ Below w.heap.size w w' := by
  have hb : Below w.heap.size w (w.alloc (.cells (VC v).toArray 115 (0, 0))) := (Below.refl _ _).alloc (Nat.le_refl _) _
  obtain ⟨a, s, d⟩ := v
  have HB := hide hb
  clear hb
  obtain ⟨q, HQ⟩ : ∃ q, Hid (fol (a, s, d) last = q) := ⟨_, rfl⟩
  rw [HQ.out]
  simp only [VC] at *
  by_cases hl : last < a
  · cases d <;> go_enter Tryz.func90, Tryz.ntmps90 <;> go_wp2 <;> go_ret <;> (refine ⟨?_, HB.out⟩; rw [← HQ.out]; simp [fol, hl])
  · have hl' : decide (last < a) = false := by simp; omega
    go_enter Tryz.func90, Tryz.ntmps90
    go_wp2
    go_ret
    refine ⟨?_, HB.out⟩
    rw [← HQ.out]
    unfold fol
    rw [hl']
    rfl
theorem drop_cons {L : List Ver} {i : Nat} (h : i < L.length) : L.drop i = L[i] :: L.drop (i + 1) := List.drop_eq_getElem_cons h

set_option maxHeartbeats 1000000 in
set_option maxRecDepth 100000 in
theorem good_any {w : World} {v : Value} {L : List Ver} (h : RdV w v L) : Calls Tryz.prog 89 #[v] w fun e w' => e = .returned (.bool (gd 0 L)) ∧ Below w.heap.size w w' := by
  have HL := hide h
  obtain ⟨a, cp, rfl⟩ := h.slice
  have hn : L.length ≤ 9223372036854775807 := Nat.le_trans h.cap h.max
  clear h
  have hz := Zver
  obtain ⟨n, HN⟩ : ∃ n, Hid (L.length = n) := ⟨_, rfl⟩
  rw [HN.out] at HL hn ⊢
  go_enter Tryz.func89, Tryz.ntmps89
  go_wp2_with fail
  go_loopg [3, 8] n (fun g y x wr => ∃ (i : Nat) (last : Int), g + i = n ∧ y = .int .i64 last ∧ x = .int .i64 (i : Int) ∧ Hid (gd last (L.drop i) = gd 0 L) ∧ Hid (Below w.heap.size w wr))
  case atStart => exact ⟨0, 0, by omega, rfl, rfl, rfl, Below.refl _ _⟩
  case round =>
    obtain ⟨i, last, hgi, rfl, rfl, HG, LR⟩ := hrel
    by_cases hlt : i < n
    · have q2 : (i : Int) < (n : Int) := by omega
      obtain ⟨b, off, rfl, hlb, hx⟩ := (HL.out.kept LR.out).nth (by omega)
      have hlt' : i < L.length := by rw [HN.out]; exact hlt
      have hr := hx i hlt'
      obtain ⟨p, HP⟩ : ∃ p, Hid (L[i] = p) := ⟨L[i], (show L[i] = L[i] from rfl)⟩
      rw [HP.out] at hr
      clear hx
      go_upto_region 5 with (first
        | (refine wpList_load_mid rfl 115 _ rfl b (off + i * 3) rfl (VC p) _ hr Tryz.underlying115 rfl Tryz.size115 ?_)
        | (refine wpList_store_new rfl 115 _ _ rfl wr _ (VC p).toArray _ rfl rfl rfl Tryz.size115 rfl (all_one (VC_one p)) ?_)
        | fail)
      obtain ⟨E, HE⟩ : ∃ E, Hid (wr.heap.size = E) := ⟨_, rfl⟩
      rw [HE.out]
      obtain ⟨w4, hw4⟩ : ∃ x, x = wr.alloc (.cells (VC p).toArray 115 (0, 0)) := ⟨_, rfl⟩
      rw [← hw4]
      have G4 : Hid (Below wr.heap.size wr w4) := (show Below _ _ _ by rw [hw4]; exact (Below.refl _ _).alloc (Nat.le_refl _) _)
      have L4 : Hid (Below w.heap.size w w4) := LR.out.trans (G4.out.mono LR.out.size)
      have B4 : Hid (Blk w4 E 115 (VC p)) := (show Blk _ _ _ _ by rw [hw4, ← HE.out]; exact Blk.new wr 115 (VC p))
      clear hw4 hr
      have HG2 : Hid ((fol p last && gd p.1 (L.drop (i + 1))) = gd 0 L) := (show _ = _ by rw [← HG.out, drop_cons hlt', HP.out, gd])
      have B4r := B4.out.range0
      go_wp2_with (refine wpList_load_mid rfl 115 _ rfl E 0 rfl (VC p) _ B4r Tryz.underlying115 rfl Tryz.size115 ?_)
      refine (mayFollow_any p last w4).mono ?_
      rintro e w5 ⟨rfl, hb5⟩
      have L5 : Hid (Below w.heap.size w w5) := L4.out.trans (hb5.mono L4.out.size)
      have c0 := (B4.out.kept hb5).cell (j := 0) rfl
      clear hb5 B4r B4
      obtain ⟨q, HQ⟩ : ∃ q, Hid (fol p last = q) := ⟨_, rfl⟩
      rw [HQ.out] at HG2 ⊢
      cases q with
      | false =>
        go_wp2_with fail
        go_ret
        exact ⟨by rw [← HG2.out]; rfl, L5.out⟩
      | true =>
        go_wp2_with fail
        go_roundg (gk - 1)
        case measure => omega
        case rel => exact ⟨i + 1, p.1, by omega, rfl, by go_num, (show _ = _ by rw [← HG2.out]; rfl), L5⟩
    · obtain rfl : i = n := by omega
      have q2 : ¬ (i : Int) < (i : Int) := by omega
      have HF : Hid (gd 0 L = true) := (show _ = _ by rw [← HG.out, List.drop_of_length_le (by rw [HN.out]; exact Nat.le_refl _)]; rfl)
      go_wp2_with fail
      go_ret
      exact ⟨by rw [HF.out]; rfl, LR.out⟩
theorem fol_le {v : Ver} {last : Int} (h : v.1 ≤ last) : fol v last = false := by
  unfold fol
  rw [decide_eq_false (by omega)]
  rfl
theorem fol_gt {v : Ver} {last : Int} (h : last < v.1) : fol v last = (!v.2.2 || v.2.1.toList.isEmpty) := by
  unfold fol
  rw [decide_eq_true h]
  rfl

set_option maxHeartbeats 1000000 in
set_option maxRecDepth 100000 in
theorem kgood_any {w : World} {v : Value} {L : List Ver} (h : RdV w v L) : Calls Tryz.prog 97 #[v] w fun e w' => e = .returned (.bool (gd 0 L)) ∧ Below w.heap.size w w' := by
  have HL := hide h
  obtain ⟨a, cp, rfl⟩ := h.slice
  have hn : L.length ≤ 9223372036854775807 := Nat.le_trans h.cap h.max
  clear h
  have hz := Zrver
  obtain ⟨n, HN⟩ : ∃ n, Hid (L.length = n) := ⟨_, rfl⟩
  rw [HN.out] at HL hn ⊢
  go_enter Tryz.func97, Tryz.ntmps97
  go_wp2_with fail
  go_loopg [3, 8] n (fun g y x wr => ∃ (i : Nat) (last : Int), g + i = n ∧ y = .int .i64 last ∧ x = .int .i64 (i : Int) ∧ Hid (gd last (L.drop i) = gd 0 L) ∧ Hid (Below w.heap.size w wr))
  case atStart => exact ⟨0, 0, by omega, rfl, rfl, rfl, Below.refl _ _⟩
  case round =>
    obtain ⟨i, last, hgi, rfl, rfl, HG, LR⟩ := hrel
    by_cases hlt : i < n
    · have q2 : (i : Int) < (n : Int) := by omega
      obtain ⟨b, off, rfl, hlb, hx⟩ := (HL.out.kept LR.out).nth (by omega)
      have hlt' : i < L.length := by rw [HN.out]; exact hlt
      have hr := hx i hlt'
      obtain ⟨p, HP⟩ : ∃ p, Hid (L[i] = p) := ⟨L[i], (show L[i] = L[i] from rfl)⟩
      rw [HP.out] at hr
      clear hx
      go_upto_region 5 with (first
        | (refine wpList_load_mid rfl 140 _ rfl b (off + i * 3) rfl (VC p) _ hr Tryz.underlying140 rfl Tryz.size140 ?_)
        | (refine wpList_store_new rfl 140 _ _ rfl wr _ (VC p).toArray _ rfl rfl rfl Tryz.size140 rfl (all_one (VC_one p)) ?_)
        | fail)
      obtain ⟨E, HE⟩ : ∃ E, Hid (wr.heap.size = E) := ⟨_, rfl⟩
      rw [HE.out]
      obtain ⟨w4, hw4⟩ : ∃ x, x = wr.alloc (.cells (VC p).toArray 140 (0, 0)) := ⟨_, rfl⟩
      rw [← hw4]
      have G4 : Hid (Below wr.heap.size wr w4) := (show Below _ _ _ by rw [hw4]; exact (Below.refl _ _).alloc (Nat.le_refl _) _)
      have L4 : Hid (Below w.heap.size w w4) := LR.out.trans (G4.out.mono LR.out.size)
      have B4 : Hid (Blk w4 E 140 (VC p)) := (show Blk _ _ _ _ by rw [hw4, ← HE.out]; exact Blk.new wr 140 (VC p))
      clear hw4 hr
      have HG2 : Hid ((fol p last && gd p.1 (L.drop (i + 1))) = gd 0 L) := (show _ = _ by rw [← HG.out, drop_cons hlt', HP.out, gd])
      obtain ⟨x, s, d⟩ := p
      have c0 := B4.out.cell (j := 0) rfl
      have c1 := B4.out.cell (j := 1) rfl
      have c2 := B4.out.cell (j := 2) rfl
      simp only at c0 c1 c2
      by_cases hle : x ≤ last
      · rw [fol_le (v := (x, s, d)) hle] at HG2
        have HF : Hid (gd 0 L = false) := HG2.out.symm
        have q3 : decide (x ≤ last) = true := by simp [hle]
        go_wp2_with fail
        go_ret
        exact ⟨by rw [HF.out]; rfl, L4.out⟩
      · have q3 : decide (x ≤ last) = false := by simp; omega
        rw [fol_gt (v := (x, s, d)) (by show last < x; omega)] at HG2
        simp only at HG2
        cases d with
        | false =>
          have HF : Hid (gd x (L.drop (i + 1)) = gd 0 L) := (show _ = _ by rw [← HG2.out]; rfl)
          clear HG2
          go_wp2_with fail
          go_roundg (gk - 1)
          case measure => omega
          case rel => exact ⟨i + 1, x, by omega, rfl, by go_num, HF, L4⟩
        | true =>
          obtain ⟨q, hq⟩ : ∃ q, s.toList.isEmpty = q := ⟨_, rfl⟩
          rw [hq] at HG2
          cases q with
          | false =>
            have HF : Hid (gd 0 L = false) := HG2.out.symm
            go_wp2_with fail
            go_ret
            exact ⟨by rw [HF.out]; rfl, L4.out⟩
          | true =>
            have HF : Hid (gd x (L.drop (i + 1)) = gd 0 L) := (show _ = _ by rw [← HG2.out]; rfl)
            clear HG2
            go_wp2_with fail
            go_roundg (gk - 1)
            case measure => omega
            case rel => exact ⟨i + 1, x, by omega, rfl, by go_num, HF, L4⟩
    · obtain rfl : i = n := by omega
      have q2 : ¬ (i : Int) < (i : Int) := by omega
      have HF : Hid (gd 0 L = true) := (show _ = _ by rw [← HG.out, List.drop_of_length_le (by rw [HN.out]; exact Nat.le_refl _)]; rfl)
      go_wp2_with fail
      go_ret
      exact ⟨by rw [HF.out]; rfl, LR.out⟩
end Go.Proofs.YtcicekggeampcaaGreat

/-
  chain's copied, upTo, with sort.Search and its function, and Last, the reference's too: what the calls do.
-/
namespace Go.Proofs.YtcicekggeampcaaGreat
open Go.RowKit

set_option maxHeartbeats 1000000 in
set_option maxRecDepth 100000 in
theorem copied_any {w : World} {v : Value} {L : List Ver} (h : RdV w v L) (hl : L.length ≤ 4398046511104) :
    Calls Tryz.prog 92 #[v] w fun e w' => ∃ v', e = .returned v' ∧ OwnV w' w.heap.size 115 v' L ∧ Below w.heap.size w w' := by
  obtain ⟨i0, hi0, hz0, hz1, hz2⟩ := info_parts Tryz.info115
  obtain ⟨a, cp, rfl⟩ := h.slice
  have ba : Below w.heap.size w (w.alloc (.cells (VCs (List.replicate L.length zv)).toArray 115 (0, 0))) := (Below.refl _ _).alloc (Nat.le_refl _) _
  have R1 := hide (h.kept ba)
  have B1 := hide (Blk.new w 115 (VCs (List.replicate L.length zv)))
  have ho := B1.out.overV 0 L (by simp)
  have e1 : overV (List.replicate L.length zv) 0 L = L := by simp [overV]
  rw [e1, Nat.zero_mul] at ho
  have HO := hide (own_blk (B := w.heap.size) ho (Nat.le_refl _) (by simp only [maxLen]; omega))
  have HB := hide (ba.trans ((But.setCells w.heap.size (VCs L) 0 _).below (Nat.le_refl _) (by simp)))
  have hlz : (VCs (List.replicate L.length zv)).length = L.length * 3 := by rw [VCs_length, List.length_replicate]
  have HLZ := hide hlz
  clear ho ba h e1 hlz
  go_enter Tryz.func92, Tryz.ntmps92
  go_wp2_with (first
    | (at_make; refine wpList_make_vers _ rfl _ _ 111 115 rfl i0 Tryz.underlying111 hi0 hz0 hz1 hz2 .i64 .i64 _ _ L.length L.length rfl rfl rfl rfl (Nat.le_refl _) (by omega) ?_)
    | (refine wpList_copy_vers rfl _ _ 111 111 rfl 115 Tryz.underlying111 Tryz.size115 w.heap.size L.length L.length _ L rfl rfl R1.out (Nat.le_refl _) 115 _ B1.out (by rw [HLZ.out]; exact Nat.le_refl _) ?_)
    | fail)
  go_ret
  exact ⟨_, rfl, HO.out, HB.out⟩
/-- The function that the search asks: is the version at place i behind the snapshot? -/
theorem search1_any {w : World} {a : Option Addr} {n cap : Nat} {L : List Ver} {Bc Bs : Nat} {snap : Int} (h : RdV w (.slice a n cap) L) (hc : w.cell? ⟨Bc, 0, none⟩ = some (.slice a n cap)) (hs : w.cell? ⟨Bs, 0, none⟩ = some (.int .i64 snap)) (i : Nat) (hi : i < L.length) :
    Calls Tryz.prog 112 #[.int .i64 (i : Int), .pointer (some ⟨Bc, 0, none⟩), .pointer (some ⟨Bs, 0, none⟩)] w fun e w' => e = .returned (.bool (decide (snap < L[i].1))) ∧ Below w.heap.size w w' := by
  have hln := h.len
  obtain ⟨b, off, rfl, hlb, hx⟩ := h.nth (by omega)
  have c0 := hx i hi 0 _ rfl
  have hin : (i : Int) < (n : Int) := by omega
  simp only [Nat.add_zero] at c0
  generalize L[i].1 = y at c0 ⊢
  clear hx hln h
  go_enter Tryz.func112, Tryz.ntmps112
  go_wp2_with fail
  go_quiet (fail)
  go_wp2
  go_ret
  exact ⟨rfl, below_drewN _ _ _⟩
set_option maxHeartbeats 2000000 in
set_option maxRecDepth 100000 in
theorem search_any {w : World} {a : Option Addr} {n cap : Nat} {L : List Ver} {Bc Bs : Nat} {snap : Int} (h : RdV w (.slice a n cap) L) (hc : w.cell? ⟨Bc, 0, none⟩ = some (.slice a n cap)) (hs : w.cell? ⟨Bs, 0, none⟩ = some (.int .i64 snap)) (hr : Rise L) (hn : n ≤ 4398046511104) :
    Calls Tryz.prog 111 #[.int .i64 (n : Int), .func (.func 112) #[] #[.pointer (some ⟨Bc, 0, none⟩), .pointer (some ⟨Bs, 0, none⟩)]] w fun e w' => e = .returned (.int .i64 ((upto snap L).length : Int)) ∧ Below w.heap.size w w' := by
  have HL := hide h
  have hln := hide h.len
  have HC := hide hc
  have HS := hide hs
  have HR := hide hr
  have hbc := World.block_lt_of_cell? _ _ hc
  have hbs := World.block_lt_of_cell? _ _ hs
  clear h hc hs hr
  obtain ⟨u, HU⟩ : ∃ u, Hid ((upto snap L).length = u) := ⟨_, rfl⟩
  have HUn : Hid (u ≤ n) := (show _ by rw [← HU.out, ← hln.out]; exact upto_le _ _)
  rw [HU.out]
  go_enter Tryz.func111, Tryz.ntmps111
  go_wp2_with fail
  go_loopg [5, 6] n (fun g x y wr => ∃ lo hi : Nat, x = .int .i64 (lo : Int) ∧ y = .int .i64 (hi : Int) ∧ hi ≤ n ∧ hi - lo ≤ g ∧ Hid (lo ≤ u ∧ u ≤ hi) ∧ Hid (Below w.heap.size w wr))
  case atStart => exact ⟨0, n, rfl, rfl, Nat.le_refl _, by omega, ⟨Nat.zero_le _, HUn.out⟩, Below.refl _ _⟩
  case round =>
    obtain ⟨lo, hi, rfl, rfl, hin, hg, HI, LR⟩ := hrel
    by_cases hlt : lo < hi
    · have q1 : (lo : Int) < (hi : Int) := by omega
      obtain ⟨m, HM⟩ : ∃ m, Hid ((lo + hi) / 2 = m) := ⟨_, rfl⟩
      have hm1 : lo ≤ m ∧ m < hi := by have := HM.out; omega
      have hcall := search1_any (HL.out.kept LR.out) ((LR.out.cell (p := ⟨Bc, 0, none⟩) hbc).trans HC.out) ((LR.out.cell (p := ⟨Bs, 0, none⟩) hbs).trans HS.out) m (by rw [hln.out]; omega)
      rw [upto_at HR.out (by rw [hln.out]; omega), HU.out] at hcall
      have em : ((lo : Int) + (hi : Int)) / 2 = (m : Int) := by have := HM.out; omega
      have HCALL := hide hcall
      clear hcall
      go_wp2_with fail
      refine HCALL.out.mono ?_
      rintro e w5 ⟨rfl, hb5⟩
      have L5 : Hid (Below w.heap.size w w5) := LR.out.trans (hb5.mono LR.out.size)
      clear hb5 HCALL
      by_cases hum : u ≤ m
      · rw [decide_eq_true hum]
        have I2 : Hid (lo ≤ u ∧ u ≤ m) := ⟨HI.out.1, hum⟩
        go_wp2_with fail
        go_roundg (m - lo)
        case measure => omega
        case rel => exact ⟨lo, m, rfl, rfl, by omega, Nat.le_refl _, I2, L5⟩
      · rw [decide_eq_false hum]
        have I2 : Hid (m + 1 ≤ u ∧ u ≤ hi) := ⟨by omega, HI.out.2⟩
        go_wp2_with fail
        go_roundg (hi - (m + 1))
        case measure => omega
        case rel => exact ⟨m + 1, hi, by go_num, rfl, by omega, Nat.le_refl _, I2, L5⟩
    · obtain rfl : hi = lo := by have := HI.out; omega
      have q1 : ¬ (hi : Int) < (hi : Int) := by omega
      go_wp2_with fail
      go_ret
      exact ⟨by have := HI.out; rw [show u = hi by omega]; rfl, LR.out⟩
theorem cell_box (w : World) (v : Value) (t : TypeId) : (w.alloc (.cells #[v] t (0, 0))).cell? ⟨w.heap.size, 0, none⟩ = some v := by
  rw [World.cell?_alloc_at _ _ _ _ (by simp)]; rfl
set_option maxHeartbeats 1000000 in
set_option maxRecDepth 100000 in
theorem upTo_any {w : World} {v : Value} {L : List Ver} (h : RdV w v L) (hr : Rise L) (hl : L.length ≤ 4398046511104) (snap : Int) :
    Calls Tryz.prog 96 #[v, .int .i64 snap] w fun e w' => e = .returned (.int .i64 ((upto snap L).length : Int)) ∧ Below w.heap.size w w' := by
  obtain ⟨a, cp, rfl⟩ := h.slice
  obtain ⟨n, HN⟩ : ∃ n, Hid (L.length = n) := ⟨_, rfl⟩
  rw [HN.out] at h hl ⊢
  have hmf : ∀ (fn : Fn) (first cap : Array Value) (w : World), (Instr.makeFunc fn first cap).run Tryz.prog w = .ok (.func fn first cap) w := fun _ _ _ _ => rfl
  have b1 : Below w.heap.size w (w.alloc (.cells #[.slice a n cp] 111 (0, 0))) := (Below.refl _ _).alloc (Nat.le_refl _) _
  have c1 := cell_box w (.slice a n cp) 111
  obtain ⟨w1, hw1⟩ : ∃ x, x = w.alloc (.cells #[.slice a n cp] 111 (0, 0)) := ⟨_, rfl⟩
  have hs1 : w1.heap.size = w.heap.size + 1 := by rw [hw1]; simp
  rw [← hw1] at b1 c1
  have b2 : Below w1.heap.size w1 (w1.alloc (.cells #[.int .i64 snap] 3 (0, 0))) := (Below.refl _ _).alloc (Nat.le_refl _) _
  have c2 := cell_box w1 (.int .i64 snap) 3
  have c1' := (b2.cell (p := ⟨w.heap.size, 0, none⟩) (by rw [hs1]; simp)).trans c1
  rw [hs1] at c2
  have HX := hide (search_any ((h.kept b1).kept b2) c1' c2 hr hl)
  have HB := hide (b1.trans (b2.mono b1.size))
  rw [hw1] at c1' HX HB
  clear hs1 b1 c1 b2 c2 hw1 h hr
  go_enter Tryz.func96, Tryz.ntmps96
  go_wp2_with fail
  refine HX.out.mono ?_
  rintro e w5 ⟨rfl, hb5⟩
  have L5 : Hid (Below w.heap.size w w5) := HB.out.trans (hb5.mono HB.out.size)
  clear hb5 HX
  go_wp2_with fail
  go_ret
  exact ⟨rfl, L5.out⟩
theorem lst_good {L : List Ver} (hg : gd 0 L = true) (hp : 0 < L.length) : lst L = (L[L.length - 1]'(by omega)).1 := by
  unfold lst
  rw [if_pos hg, List.getLast?_eq_getElem?, List.getElem?_eq_getElem (by omega)]
  rfl
theorem lst_bad {L : List Ver} (hg : gd 0 L = false) : lst L = 0 := by
  unfold lst
  rw [hg]
  rfl
set_option maxHeartbeats 1000000 in
set_option maxRecDepth 100000 in
theorem last_any {w : World} {v : Value} {L : List Ver} (h : RdV w v L) : Calls Tryz.prog 91 #[v] w fun e w' => e = .returned (.int .i64 (lst L)) ∧ Below w.heap.size w w' := by
  have HL := hide h
  obtain ⟨a, cp, rfl⟩ := h.slice
  have hn : L.length ≤ 9223372036854775807 := Nat.le_trans h.cap h.max
  clear h
  obtain ⟨n, HN⟩ : ∃ n, Hid (L.length = n) := ⟨_, rfl⟩
  rw [HN.out] at HL hn ⊢
  by_cases hp : n = 0
  · subst hp
    have HF : Hid (lst L = 0) := (show _ = _ by rw [List.eq_nil_of_length_eq_zero HN.out]; rfl)
    go_enter Tryz.func91, Tryz.ntmps91
    go_wp2_with fail
    go_ret
    exact ⟨by rw [HF.out]; rfl, Below.refl _ _⟩
  · have q1 : ((n : Int) == 0) = false := by simp; omega
    go_enter Tryz.func91, Tryz.ntmps91
    go_wp2_with fail
    refine (good_any HL.out).mono ?_
    rintro e w5 ⟨rfl, hb5⟩
    have L5 := hide hb5
    obtain ⟨q, HQ⟩ : ∃ q, Hid (gd 0 L = q) := ⟨_, rfl⟩
    rw [HQ.out]
    cases q with
    | false =>
      have HF := hide (lst_bad HQ.out)
      clear hb5
      go_wp2_with fail
      go_ret
      exact ⟨by rw [HF.out]; rfl, L5.out⟩
    | true =>
      obtain ⟨b, off, rfl, hlb, hx⟩ := (HL.out.kept L5.out).nth (by omega)
      have hlt' : n - 1 < L.length := by rw [HN.out]; omega
      have c0 := hx (n - 1) hlt' 0 _ rfl
      have HF : Hid (lst L = (L[n - 1]).1) := (show _ = _ by
        have := lst_good HQ.out (by omega)
        simp only [HN.out] at this
        exact this)
      simp only [Nat.add_zero] at c0
      generalize (L[n - 1]).1 = y at c0 HF
      have e1 : (n : Int) - 1 = ((n - 1 : Nat) : Int) := by omega
      have e2 : ((n - 1 : Nat) : Int) < (n : Int) := by omega
      clear hx hb5
      go_wp2_with fail
      go_ret
      exact ⟨by rw [HF.out]; rfl, L5.out⟩
set_option maxHeartbeats 1000000 in
set_option maxRecDepth 100000 in
theorem klast_any {w : World} {v : Value} {L : List Ver} (h : RdV w v L) : Calls Tryz.prog 110 #[v] w fun e w' => e = .returned (.int .i64 (lst L)) ∧ Below w.heap.size w w' := by
  have HL := hide h
  obtain ⟨a, cp, rfl⟩ := h.slice
  have hn : L.length ≤ 9223372036854775807 := Nat.le_trans h.cap h.max
  clear h
  obtain ⟨n, HN⟩ : ∃ n, Hid (L.length = n) := ⟨_, rfl⟩
  rw [HN.out] at HL hn ⊢
  by_cases hp : n = 0
  · subst hp
    have HF : Hid (lst L = 0) := (show _ = _ by rw [List.eq_nil_of_length_eq_zero HN.out]; rfl)
    go_enter Tryz.func110, Tryz.ntmps110
    go_wp2_with fail
    go_ret
    exact ⟨by rw [HF.out]; rfl, Below.refl _ _⟩
  · have q1 : ((n : Int) == 0) = false := by simp; omega
    go_enter Tryz.func110, Tryz.ntmps110
    go_wp2_with fail
    refine (kgood_any HL.out).mono ?_
    rintro e w5 ⟨rfl, hb5⟩
    have L5 := hide hb5
    obtain ⟨q, HQ⟩ : ∃ q, Hid (gd 0 L = q) := ⟨_, rfl⟩
    rw [HQ.out]
    cases q with
    | false =>
      have HF := hide (lst_bad HQ.out)
      clear hb5
      go_wp2_with fail
      go_ret
      exact ⟨by rw [HF.out]; rfl, L5.out⟩
    | true =>
      obtain ⟨b, off, rfl, hlb, hx⟩ := (HL.out.kept L5.out).nth (by omega)
      have hlt' : n - 1 < L.length := by rw [HN.out]; omega
      have c0 := hx (n - 1) hlt' 0 _ rfl
      have HF : Hid (lst L = (L[n - 1]).1) := (show _ = _ by
        have := lst_good HQ.out (by omega)
        simp only [HN.out] at this
        exact this)
      simp only [Nat.add_zero] at c0
      generalize (L[n - 1]).1 = y at c0 HF
      have e1 : (n : Int) - 1 = ((n - 1 : Nat) : Int) := by omega
      have e2 : ((n - 1 : Nat) : Int) < (n : Int) := by omega
      clear hx hb5
      go_wp2_with fail
      go_ret
      exact ⟨by rw [HF.out]; rfl, L5.out⟩
end Go.Proofs.YtcicekggeampcaaGreat

/-
  chain's Since, Cut, Get: what the calls do.
-/
namespace Go.Proofs.YtcicekggeampcaaGreat
open Go.RowKit

theorem upto_last {L : List Ver} {n : Int} (hr : Rise L) (hp : 0 < (upto n L).length) : (upto n L).getLast? = some (L[(upto n L).length - 1]'(by have := upto_le n L; omega)) := by
  rw [List.getLast?_eq_getElem?, List.getElem?_eq_getElem (by omega)]
  congr 1
  have hlt : (upto n L).length - 1 < (upto n L).length := by omega
  have e : L[(upto n L).length - 1]? = (upto n L)[(upto n L).length - 1]? := by
    conv => lhs; arg 1; rw [split_rise n hr]
    rw [List.getElem?_append_left hlt]
  rw [List.getElem?_eq_getElem hlt, List.getElem?_eq_getElem (by have := upto_le n L; omega)] at e
  exact (Option.some.inj e).symm

theorem upto_last' {L : List Ver} {n : Int} (hr : Rise L) (hp : 0 < (upto n L).length) : (upto n L).getLast? = L[(upto n L).length - 1]? := by
  rw [upto_last hr hp, List.getElem?_eq_getElem]
/-- A version is stored over another. -/
theorem wpList_store_ver {P : Program} {ops : Array Oper} {rest : List Oper} {op : Oper} {a : Act} {w : World} {Q : Exit → Act → World → Prop} (hgd : op.guard = none) (ty : TypeId) (x y : Operand) (ho : op.op = .store ty x y)
    (g : Nat) (v u : Ver) (hx : a.eval x = .pointer (some ⟨g, 0, none⟩)) (hy : a.eval y = .agg (VC v).toArray) (T : TypeId) (hB : Blk w g T (VC u)) (hi : (P.info? ty).map (·.size) = some 3)
    (h : ∀ w', Hid (Blk w' g T (VC v)) → Hid (But g w w') → wpList P ops Q rest (a.put op.dst undef) w') : wpList P ops Q (op :: rest) a w := by
  refine wpList_store_mid hgd ty x y ho g 0 (VC v).toArray hx hy (hB.there 0 3 (by simp [VC_length])) hi (all_one (VC_one v)) ?_
  have hb := Blk.over (VC v) hB 0 (by simp [VC_length])
  rw [over_all _ _ (by rfl)] at hb
  exact h _ hb (But.setCells g (VC v) 0 w)
theorem results_ver {P : Program} {fn : Func} {p u : Tmp} {ty : TypeId} (h : fn.results = #[.cell p ty, .tmp u]) (tmps : Array Value) (w : World) (g : Nat) (v : Ver) (b : Bool) (T : TypeId) (d : TypeDesc) (hp : tmps.getD p undef = .pointer (some ⟨g, 0, none⟩)) (hb : tmps.getD u undef = .bool b) (hB : Blk w g T (VC v))
    (hu : P.underlying ty = some d) (hd : d.isRow = true) (hi : (P.info? ty).map (·.size) = some 3) : (results fn tmps).run P w = .ok (.tuple #[.agg (VC v).toArray, .bool b]) w := by
  rw [results_cell_tmp h, hp, hb]
  have := run_loadVar_mid (P := P) w g 0 ty (VC v) d hB.range0 hu hd hi
  simp [asAddr, this]
theorem getP_bad {L : List Ver} (h : gd 0 L = false) (n : Int) : getP L n = (zv, false) := by unfold getP; rw [h]; rfl
theorem getP_none {L : List Ver} {n : Int} (h : gd 0 L = true) (hu : (upto n L).length = 0) : getP L n = (zv, false) := by
  unfold getP
  rw [if_pos h, List.eq_nil_of_length_eq_zero hu]
  rfl
theorem getP_some {L : List Ver} {n : Int} {v : Ver} (h : gd 0 L = true) (hu : (upto n L).getLast? = some v) : getP L n = if v.2.2 = true then (zv, false) else (v, true) := by
  unfold getP
  rw [if_pos h, hu]

set_option maxHeartbeats 1000000 in
set_option maxRecDepth 100000 in
theorem get_any {w : World} {v : Value} {L : List Ver} (h : RdV w v L) (hl : L.length ≤ 4398046511104) (snap : Int) :
    Calls Tryz.prog 78 #[v, .int .i64 snap] w fun e w' => e = .returned (.tuple #[.agg (VC (getP L snap).1).toArray, .bool (getP L snap).2]) ∧ Below w.heap.size w w' := by
  have HL := hide h
  obtain ⟨a, cp, rfl⟩ := h.slice
  clear h
  have hz := Zver
  obtain ⟨n, HN⟩ : ∃ n, Hid (L.length = n) := ⟨_, rfl⟩
  rw [HN.out] at HL hl ⊢
  have B1 := hide (Blk.new w 115 (VC zv))
  have L1 := hide ((Below.refl w.heap.size w).alloc (Nat.le_refl _) (.cells (VC zv).toArray 115 (0, 0)))
  go_enter Tryz.func78, Tryz.ntmps78
  go_wp2_with fail
  refine (good_any (HL.out.kept L1.out)).mono ?_
  rintro e w5 ⟨rfl, hb5⟩
  obtain ⟨G, HG⟩ : ∃ G, Hid (w.heap.size = G) := ⟨_, rfl⟩
  have L5 : Hid (Below w.heap.size w w5) := L1.out.trans (hb5.mono L1.out.size)
  have B5 : Hid (Blk w5 G 115 (VC zv)) := (show Blk _ _ _ _ by rw [← HG.out]; exact B1.out.kept hb5)
  rw [HG.out]
  clear hb5 B1 L1
  obtain ⟨q, HQ⟩ : ∃ q, Hid (gd 0 L = q) := ⟨_, rfl⟩
  rw [HQ.out]
  cases q with
  | false =>
    have HF := hide (getP_bad HQ.out snap)
    go_wp2_with (first
      | (refine wpList_buildK rfl 115 #[] rfl (.agg (VC zv).toArray) (by kernel_rfl) ?_)
      | (refine wpList_store_ver rfl 115 _ _ rfl G zv zv rfl rfl 115 B5.out Tryz.size115 ?_; intro w7 B7 T7)
      | fail)
    refine bodyPost_ret (results_ver rfl _ _ G zv false 115 _ rfl rfl B7.out Tryz.underlying115 rfl Tryz.size115) rfl ⟨by rw [HF.out], ?_⟩
    exact L5.out.trans ((T7.out.below (by rw [← HG.out]; exact Nat.le_refl _) L5.out.size))
  | true =>
    have hr := (gd_rise HQ.out).1
    have hu := upto_le snap L
    rw [HN.out] at hu
    have HUL := hide (fun hp => upto_last' (n := snap) hr hp)
    have HU0 := hide (fun hp => getP_none (n := snap) HQ.out hp)
    go_wp2_with fail
    refine (upTo_any (HL.out.kept L5.out) hr (by rw [HN.out]; exact hl) snap).mono ?_
    rintro e w6 ⟨rfl, hb6⟩
    have L6 : Hid (Below w.heap.size w w6) := L5.out.trans (hb6.mono L5.out.size)
    have B6 : Hid (Blk w6 G 115 (VC zv)) := B5.out.kept hb6
    clear hb6 hr B5
    generalize (upto snap L).length = u at hu HUL HU0 ⊢
    by_cases h0 : u = 0
    · subst h0
      have HF := hide (HU0.out rfl)
      go_wp2_with (first
        | (refine wpList_buildK rfl 115 #[] rfl (.agg (VC zv).toArray) (by kernel_rfl) ?_)
        | (refine wpList_store_ver rfl 115 _ _ rfl G zv zv rfl rfl 115 B6.out Tryz.size115 ?_; intro w7 B7 T7)
        | fail)
      refine bodyPost_ret (results_ver rfl _ _ G zv false 115 _ rfl rfl B7.out Tryz.underlying115 rfl Tryz.size115) rfl ⟨by rw [HF.out], ?_⟩
      exact L6.out.trans ((T7.out.below (by rw [← HG.out]; exact Nat.le_refl _) L6.out.size))
    · have q1 : ((u : Int) == 0) = false := by simp; omega
      have hul := HUL.out (by omega)
      obtain ⟨b, off, rfl, hlb, hx⟩ := (HL.out.kept L6.out).nth (by omega)
      have hlt' : u - 1 < L.length := by rw [HN.out]; omega
      have hrg := hx (u - 1) hlt'
      rw [List.getElem?_eq_getElem hlt'] at hul
      generalize L[u - 1] = p at hrg hul
      have HF1 := hide (getP_some HQ.out hul)
      obtain ⟨x, s, d⟩ := p
      have c2 := hrg 2 _ rfl
      simp only at c2
      have e1 : (u : Int) - 1 = ((u - 1 : Nat) : Int) := by omega
      have e2 : ((u - 1 : Nat) : Int) < (n : Int) := by omega
      clear hx hul HUL HU0
      cases d with
      | true =>
        have HF : Hid (getP L snap = (zv, false)) := HF1.out
        go_wp2_with (first
          | (refine wpList_buildK rfl 115 #[] rfl (.agg (VC zv).toArray) (by kernel_rfl) ?_)
          | (refine wpList_store_ver rfl 115 _ _ rfl G zv zv rfl rfl 115 B6.out Tryz.size115 ?_; intro w7 B7 T7)
          | fail)
        refine bodyPost_ret (results_ver rfl _ _ G zv false 115 _ rfl rfl B7.out Tryz.underlying115 rfl Tryz.size115) rfl ⟨by rw [HF.out], ?_⟩
        exact L6.out.trans ((T7.out.below (by rw [← HG.out]; exact Nat.le_refl _) L6.out.size))
      | false =>
        have HF : Hid (getP L snap = ((x, s, false), true)) := HF1.out
        go_wp2_with (first
          | (refine wpList_load_mid rfl 115 _ rfl b (off + (u - 1) * 3) rfl (VC (x, s, false)) _ hrg Tryz.underlying115 rfl Tryz.size115 ?_)
          | (refine wpList_store_ver rfl 115 _ _ rfl G (x, s, false) zv rfl rfl 115 B6.out Tryz.size115 ?_; intro w7 B7 T7)
          | fail)
        refine bodyPost_ret (results_ver rfl _ _ G (x, s, false) true 115 _ rfl rfl B7.out Tryz.underlying115 rfl Tryz.size115) rfl ⟨by rw [HF.out], ?_⟩
        exact L6.out.trans ((T7.out.below (by rw [← HG.out]; exact Nat.le_refl _) L6.out.size))
end Go.Proofs.YtcicekggeampcaaGreat

/-
  chain's Trim and Put: what the calls do.
-/
namespace Go.Proofs.YtcicekggeampcaaGreat
open Go.RowKit

theorem trimP_none {L : List Ver} {n : Int} (h : gd 0 L = true) (hu : (upto n L).length = 0) : trimP L n = L.drop 0 := by
  have hr := (gd_rise h).1
  unfold trimP
  rw [if_pos h, List.eq_nil_of_length_eq_zero hu, ← drop_upto hr, hu]
  rfl
theorem trimP_dead {L : List Ver} {n : Int} {v : Ver} (h : gd 0 L = true) (hu : (upto n L).getLast? = some v) (hd : v.2.2 = true) : trimP L n = L.drop (upto n L).length := by
  have hr := (gd_rise h).1
  unfold trimP liveL
  rw [if_pos h, hu, drop_upto hr]
  simp [hd]
theorem trimP_live {L : List Ver} {n : Int} {v : Ver} (h : gd 0 L = true) (hu : (upto n L).getLast? = some v) (hd : v.2.2 = false) : trimP L n = L.drop ((upto n L).length - 1) := by
  have hr := (gd_rise h).1
  have hp : 0 < (upto n L).length := by
    rcases Nat.eq_zero_or_pos (upto n L).length with h0 | h0
    · rw [List.eq_nil_of_length_eq_zero h0] at hu; simp at hu
    · exact h0
  have hlt : (upto n L).length - 1 < L.length := by have := upto_le n L; omega
  rw [drop_cons hlt, show (upto n L).length - 1 + 1 = (upto n L).length by omega, drop_upto hr]
  have := upto_last hr hp
  rw [hu] at this
  rw [← Option.some.inj this]
  unfold trimP liveL
  rw [if_pos h, hu]
  simp [hd]

set_option maxHeartbeats 2000000 in
set_option maxRecDepth 100000 in
theorem trim_any {w : World} {v : Value} {L : List Ver} (h : RdV w v L) (hl : L.length ≤ 4398046511104) (snap : Int) :
    Calls Tryz.prog 65 #[v, .int .i64 snap] w fun e w' => ∃ v', e = .returned v' ∧ OwnV w' w.heap.size 115 v' (trimP L snap) ∧ Below w.heap.size w w' := by
  have HL := hide h
  obtain ⟨a, cp, rfl⟩ := h.slice
  have hcap := h.cap
  clear h
  obtain ⟨n, HN⟩ : ∃ n, Hid (L.length = n) := ⟨_, rfl⟩
  rw [HN.out] at HL hl hcap ⊢
  go_enter Tryz.func65, Tryz.ntmps65
  go_wp2_with fail
  refine (good_any HL.out).mono ?_
  rintro e w5 ⟨rfl, hb5⟩
  have L5 := hide hb5
  clear hb5
  obtain ⟨q, HQ⟩ : ∃ q, Hid (gd 0 L = q) := ⟨_, rfl⟩
  rw [HQ.out]
  cases q with
  | false =>
    have HF : Hid (trimP L snap = []) := (show _ = _ by unfold trimP; rw [HQ.out]; rfl)
    go_wp2_with fail
    go_ret
    exact ⟨_, rfl, by rw [HF.out]; exact ownV_nil _ _ _, L5.out⟩
  | true =>
    have hr := (gd_rise HQ.out).1
    have hu := upto_le snap L
    rw [HN.out] at hu
    have HUL := hide (fun hp => upto_last' (n := snap) hr hp)
    have HU0 := hide (fun hp => trimP_none (n := snap) HQ.out hp)
    have HUD := hide (fun v => trimP_dead (n := snap) (v := v) HQ.out)
    have HUV := hide (fun v => trimP_live (n := snap) (v := v) HQ.out)
    have HUA := hide (fun i hi => upto_at (n := snap) hr (i := i) hi)
    go_wp2_with fail
    refine (upTo_any (HL.out.kept L5.out) hr (by rw [HN.out]; exact hl) snap).mono ?_
    rintro e w6 ⟨rfl, hb6⟩
    have L6 : Hid (Below w.heap.size w w6) := L5.out.trans (hb6.mono L5.out.size)
    clear hb6 hr
    generalize (upto snap L).length = u at hu HUL HU0 HUD HUV HUA ⊢
    by_cases h0 : u = 0
    · subst h0
      have HF := hide (HU0.out rfl)
      have e0 : ((0 : Nat) : Int) = 0 := rfl
      rw [e0]
      by_cases hn0 : n = 0
      · subst hn0
        have R6 := hide (HL.out.kept L6.out)
        go_wp2_with fail
        refine (copied_any R6.out (by rw [HN.out]; omega)).mono ?_
        rintro e w7 ⟨v', rfl, ho, hb7⟩
        have L7 : Hid (Below w.heap.size w w7) := L6.out.trans (hb7.mono L6.out.size)
        have O7 : Hid (OwnV w7 w.heap.size 115 v' (trimP L snap)) := (show OwnV _ _ _ _ _ by rw [HF.out]; exact ho.mono L6.out.size)
        clear hb7 ho
        go_wp2_with fail
        go_ret
        exact ⟨v', rfl, O7.out, L7.out⟩
      · have q0 : (0 : Int) < (n : Int) := by omega
        obtain ⟨b, off, rfl, hlb, hx⟩ := (HL.out.kept L6.out).nth (by omega)
        have hlt' : 0 < L.length := by rw [HN.out]; omega
        have hrg := hx 0 hlt'
        have ha := HUA.out 0 hlt'
        generalize L[0] = p at hrg ha
        obtain ⟨x, s, d⟩ := p
        have c0 := hrg 0 _ rfl
        have c2 := hrg 2 _ rfl
        simp only [Nat.zero_mul, Nat.add_zero] at c0 c2
        have q1 : decide (x ≤ snap) = false := by
          simp at ha
          simp
          exact ha
        clear hx HUL HU0 HUD HUV HUA ha hrg
        cases d with
        | false =>
          obtain ⟨a', hsl, hrd⟩ := slice_vers Tryz.underlying111 Tryz.size115 (some ⟨b, off, none⟩) n cp (0) (by omega) hcap
          have R6 := hide (hrd _ _ (HL.out.kept L6.out))
          clear hrd
          rw [e0] at hsl
          simp only [Nat.sub_zero] at hsl R6
          go_wp2_with fail
          refine (copied_any R6.out (by rw [List.length_drop, HN.out]; omega)).mono ?_
          rintro e w7 ⟨v', rfl, ho, hb7⟩
          have L7 : Hid (Below w.heap.size w w7) := L6.out.trans (hb7.mono L6.out.size)
          have O7 : Hid (OwnV w7 w.heap.size 115 v' (trimP L snap)) := (show OwnV _ _ _ _ _ by rw [HF.out]; exact ho.mono L6.out.size)
          clear hb7 ho
          go_wp2_with fail
          go_ret
          exact ⟨v', rfl, O7.out, L7.out⟩
        | true =>
          obtain ⟨a', hsl, hrd⟩ := slice_vers Tryz.underlying111 Tryz.size115 (some ⟨b, off, none⟩) n cp (0) (by omega) hcap
          have R6 := hide (hrd _ _ (HL.out.kept L6.out))
          clear hrd
          rw [e0] at hsl
          simp only [Nat.sub_zero] at hsl R6
          go_wp2_with fail
          refine (copied_any R6.out (by rw [List.length_drop, HN.out]; omega)).mono ?_
          rintro e w7 ⟨v', rfl, ho, hb7⟩
          have L7 : Hid (Below w.heap.size w w7) := L6.out.trans (hb7.mono L6.out.size)
          have O7 : Hid (OwnV w7 w.heap.size 115 v' (trimP L snap)) := (show OwnV _ _ _ _ _ by rw [HF.out]; exact ho.mono L6.out.size)
          clear hb7 ho
          go_wp2_with fail
          go_ret
          exact ⟨v', rfl, O7.out, L7.out⟩
    · have hul := HUL.out (by omega)
      obtain ⟨b, off, rfl, hlb, hx⟩ := (HL.out.kept L6.out).nth (by omega)
      have hlt' : u - 1 < L.length := by rw [HN.out]; omega
      have hrg := hx (u - 1) hlt'
      rw [List.getElem?_eq_getElem hlt'] at hul
      have ha := HUA.out (u - 1) hlt'
      generalize L[u - 1] = p at hrg hul ha
      obtain ⟨x, s, d⟩ := p
      have c0 := hrg 0 _ rfl
      have c2 := hrg 2 _ rfl
      simp only [Nat.add_zero] at c0 c2
      have q1 : decide (x ≤ snap) = true := by
        simp only [decide_eq_decide] at ha
        simp
        omega
      have e1 : (u : Int) - 1 = ((u - 1 : Nat) : Int) := by omega
      have e2 : ((u - 1 : Nat) : Int) < (n : Int) := by omega
      have e3 : max ((u - 1 : Nat) : Int) 0 = ((u - 1 : Nat) : Int) := by omega
      have e4 : ((u - 1 : Nat) : Int) + 1 = (u : Int) := by omega
      cases d with
      | false =>
        have HF := hide (HUV.out _ hul rfl)
        clear hx hul HUL HU0 HUD HUV HUA ha hrg
        obtain ⟨a', hsl, hrd⟩ := slice_vers Tryz.underlying111 Tryz.size115 (some ⟨b, off, none⟩) n cp (u - 1) (by omega) hcap
        have R6 := hide (hrd _ _ (HL.out.kept L6.out))
        clear hrd
        go_wp2_with fail
        refine (copied_any R6.out (by rw [List.length_drop, HN.out]; omega)).mono ?_
        rintro e w7 ⟨v', rfl, ho, hb7⟩
        have L7 : Hid (Below w.heap.size w w7) := L6.out.trans (hb7.mono L6.out.size)
        have O7 : Hid (OwnV w7 w.heap.size 115 v' (trimP L snap)) := (show OwnV _ _ _ _ _ by rw [HF.out]; exact ho.mono L6.out.size)
        clear hb7 ho
        go_wp2_with fail
        go_ret
        exact ⟨v', rfl, O7.out, L7.out⟩
      | true =>
        have HF := hide (HUD.out _ hul rfl)
        clear hx hul HUL HU0 HUD HUV HUA ha hrg
        obtain ⟨a', hsl, hrd⟩ := slice_vers Tryz.underlying111 Tryz.size115 (some ⟨b, off, none⟩) n cp (u) (by omega) hcap
        have R6 := hide (hrd _ _ (HL.out.kept L6.out))
        clear hrd
        go_wp2_with fail
        refine (copied_any R6.out (by rw [List.length_drop, HN.out]; omega)).mono ?_
        rintro e w7 ⟨v', rfl, ho, hb7⟩
        have L7 : Hid (Below w.heap.size w w7) := L6.out.trans (hb7.mono L6.out.size)
        have O7 : Hid (OwnV w7 w.heap.size 115 v' (trimP L snap)) := (show OwnV _ _ _ _ _ by rw [HF.out]; exact ho.mono L6.out.size)
        clear hb7 ho
        go_wp2_with fail
        go_ret
        exact ⟨v', rfl, O7.out, L7.out⟩
end Go.Proofs.YtcicekggeampcaaGreat

/-
  chain's Put: what the call does.
-/
namespace Go.Proofs.YtcicekggeampcaaGreat
open Go.RowKit

/-- A contract, in every world that a region that draws may come to. -/
theorem quiet_of {P : Program} {f : FuncId} {args : Array Value} {w : World} {v : Value} (H : ∀ W, Below w.heap.size w W → Calls P f args W fun e w' => e = .returned v ∧ Below W.heap.size W w') (d : Nat) (os : Array Obj) :
    Calls P f args (Go.Sort.grow (redrawn w d) os) fun e w'' => e = .returned v ∧ ∃ p : Regrown, w'' = Go.Sort.grow (redrawn w p.d) p.os := Calls.regrown_of (H _ (below_regrown w d os))
theorem putP_no {L : List Ver} {v : Ver} (h : putOk L v = false) : putP L v = L := by unfold putP; rw [h]; rfl
theorem putP_ok {L : List Ver} {v : Ver} (h : putOk L v = true) : putP L v = L ++ [v] := by unfold putP; rw [h]; rfl

/-- copy of versions to the head of a row of versions. -/
theorem wpList_copy_over {P : Program} {w : World} {ops : Array Oper} {rest : List Oper} {o : Oper} {a : Act} {Q : Exit → Act → World → Prop} (hgd : o.guard = none) (d s : Operand) (dT sT : TypeId)
    (ho : o.op = .call { callee := .builtin .copy, args := #[d, s], argTypes := #[dT, sT] }) (elem : TypeId) (hu : P.underlying dT = some (.slice elem)) (hsz : (P.info? elem).map (·.size) = some 3)
    (b dLen dCap : Nat) (v : Value) (L : List Ver) (hd : a.eval d = .slice (some ⟨b, 0, none⟩) dLen dCap) (hs : a.eval s = v) (hr : RdV w v L) (hl : L.length ≤ dLen)
    (T : TypeId) (Z : List Ver) (hB : Blk w b T (VCs Z)) (hfit : dLen ≤ Z.length)
    (h : ∀ w', Hid (Blk w' b T (VCs (overV Z 0 L))) → Hid (But b w w') → wpList P ops Q rest (a.put o.dst (goInt L.length)) w') : wpList P ops Q (o :: rest) a w := by
  refine wpList_copy_vers hgd d s dT sT ho elem hu hsz b dLen dCap v L hd hs hr hl T (VCs Z) hB (by rw [VCs_length]; omega) ?_
  have := hB.overV 0 L (by omega)
  rw [Nat.zero_mul] at this
  exact h _ this (But.setCells b (VCs L) 0 w)
/-- A version is stored at a place of a row of versions. -/
theorem wpList_store_at {P : Program} {ops : Array Oper} {rest : List Oper} {op : Oper} {a : Act} {w : World} {Q : Exit → Act → World → Prop} (hgd : op.guard = none) (ty : TypeId) (x y : Operand) (ho : op.op = .store ty x y)
    (g k : Nat) (v : Ver) (hx : a.eval x = .pointer (some ⟨g, k * 3, none⟩)) (hy : a.eval y = .agg (VC v).toArray) (T : TypeId) (Z : List Ver) (hB : Blk w g T (VCs Z)) (hk : k < Z.length) (hi : (P.info? ty).map (·.size) = some 3)
    (h : ∀ w', Hid (Blk w' g T (VCs (overV Z k [v]))) → Hid (But g w w') → wpList P ops Q rest (a.put op.dst undef) w') : wpList P ops Q (op :: rest) a w := by
  refine wpList_store_mid hgd ty x y ho g (k * 3) (VC v).toArray hx hy (hB.there (k * 3) 3 (by rw [VCs_length]; omega)) hi (all_one (VC_one v)) ?_
  have hb := hB.overV k [v] (by simp; omega)
  have e : VCs [v] = VC v := by simp [VCs]
  rw [e] at hb
  exact h _ hb (But.setCells g (VC v) (k * 3) w)
theorem overV_put (L : List Ver) (v : Ver) : overV (overV (List.replicate (L.length + 1) zv) 0 L) L.length [v] = L ++ [v] := by
  simp [overV]

set_option maxHeartbeats 2000000 in
set_option maxRecDepth 100000 in
theorem put_any {w : World} {u : Value} {L : List Ver} (h : RdV w u L) (hl : L.length ≤ 4398046511103) (v : Ver) :
    Calls Tryz.prog 61 #[u, .agg (VC v).toArray] w fun e w' => ∃ v', e = .returned (.tuple #[v', .bool (putOk L v)]) ∧ OwnV w' w.heap.size 115 v' (putP L v) ∧ Below w.heap.size w w' := by
  have HL := hide h
  obtain ⟨a, cp, rfl⟩ := h.slice
  clear h
  obtain ⟨n, HN⟩ : ∃ n, Hid (L.length = n) := ⟨_, rfl⟩
  rw [HN.out] at HL hl ⊢
  have L1 := hide ((Below.refl w.heap.size w).alloc (Nat.le_refl _) (.cells (VC v).toArray 115 (0, 0)))
  have B1 := hide (Blk.new w 115 (VC v))
  go_enter Tryz.func61, Tryz.ntmps61
  go_upto_region 1 with fail
  obtain ⟨E, HE⟩ : ∃ E, Hid (w.heap.size = E) := ⟨_, rfl⟩
  obtain ⟨w1, hw1⟩ : ∃ x, x = w.alloc (.cells (VC v).toArray 115 (0, 0)) := ⟨_, rfl⟩
  rw [← hw1] at L1 B1 ⊢
  rw [HE.out] at B1 ⊢
  clear hw1
  have cG := quiet_of (w := w1) (fun W hW => good_any ((HL.out.kept L1.out).kept hW))
  have cL := quiet_of (w := w1) (fun W hW => last_any ((HL.out.kept L1.out).kept hW))
  have cM := quiet_of (w := w1) (fun W hW => mayFollow_any v (lst L) W)
  have KL := hide (B1.out.class)
  have HP : Hid (putOk L v = (gd 0 L && fol v (lst L))) := rfl
  obtain ⟨q, HQ⟩ : ∃ q, Hid (gd 0 L = q) := ⟨_, rfl⟩
  rw [HQ.out] at cG HP
  cases q with
  | false =>
    have HF : Hid (putOk L v = false) := HP.out
    refine wp_region_quiet_below Tryz.mixed (by kernel_rfl) ?_
    repeat (go_big_quiet_step (exact cG _ _))
    refine wpQuiet_nil ?_
    intro w3 hw3
    have L13 : Hid (Below w1.heap.size w1 w3) := (show Below _ _ _ by obtain ⟨⟨dq, osq⟩, rfl⟩ := hw3; exact below_regrown w1 dq osq)
    have B3 : Hid (Blk w3 E 115 (VC v)) := B1.out.kept L13.out
    have L3 : Hid (Below w.heap.size w w3) := L1.out.trans (L13.out.mono L1.out.size)
    clear hw3 cG cL cM KL L13 B1
    go_wp2_with fail
    refine (copied_any (HL.out.kept L3.out) (by rw [HN.out]; omega)).mono ?_
    rintro e w7 ⟨v', rfl, ho, hb7⟩
    have L7 : Hid (Below w.heap.size w w7) := L3.out.trans (hb7.mono L3.out.size)
    have O7 : Hid (OwnV w7 w.heap.size 115 v' (putP L v)) := (show OwnV _ _ _ _ _ by rw [putP_no HF.out]; exact ho.mono L3.out.size)
    clear hb7 ho
    go_wp2_with fail
    go_ret2
    exact ⟨v', by rw [HF.out]; rfl, O7.out, L7.out⟩
  | true =>
    refine wp_region_quiet_below Tryz.mixed (by kernel_rfl) ?_
    iterate 4 (go_big_quiet_step (exact cG _ _))
    refine wpQuiet_load_mid rfl 115 _ rfl E 0 rfl (VC v) _ KL.out Tryz.underlying115 rfl Tryz.size115 ?_
    simp only [Act.put, List.setIfInBounds_toArray, List.set_cons_succ, List.set_cons_zero]
    obtain ⟨r, HR⟩ : ∃ r, Hid (fol v (lst L) = r) := ⟨_, rfl⟩
    rw [HR.out] at cM HP
    generalize lst L = la at cL cM
    cases r with
    | false =>
      have HF : Hid (putOk L v = false) := HP.out
      repeat (go_big_quiet_step (first | exact cL _ _ | exact cM _ _))
      refine wpQuiet_nil ?_
      intro w3 hw3
      have L13 : Hid (Below w1.heap.size w1 w3) := (show Below _ _ _ by obtain ⟨⟨dq, osq⟩, rfl⟩ := hw3; exact below_regrown w1 dq osq)
      have B3 : Hid (Blk w3 E 115 (VC v)) := B1.out.kept L13.out
      have L3 : Hid (Below w.heap.size w w3) := L1.out.trans (L13.out.mono L1.out.size)
      clear hw3 cG cL cM KL L13 B1
      go_wp2_with fail
      refine (copied_any (HL.out.kept L3.out) (by rw [HN.out]; omega)).mono ?_
      rintro e w7 ⟨v', rfl, ho, hb7⟩
      have L7 : Hid (Below w.heap.size w w7) := L3.out.trans (hb7.mono L3.out.size)
      have O7 : Hid (OwnV w7 w.heap.size 115 v' (putP L v)) := (show OwnV _ _ _ _ _ by rw [putP_no HF.out]; exact ho.mono L3.out.size)
      clear hb7 ho
      go_wp2_with fail
      go_ret2
      exact ⟨v', by rw [HF.out]; rfl, O7.out, L7.out⟩
    | true =>
      have HF : Hid (putOk L v = true) := HP.out
      repeat (go_big_quiet_step (first | exact cL _ _ | exact cM _ _))
      refine wpQuiet_nil ?_
      intro w3 hw3
      have L13 : Hid (Below w1.heap.size w1 w3) := (show Below _ _ _ by obtain ⟨⟨dq, osq⟩, rfl⟩ := hw3; exact below_regrown w1 dq osq)
      have B3 : Hid (Blk w3 E 115 (VC v)) := B1.out.kept L13.out
      have L3 : Hid (Below w.heap.size w w3) := L1.out.trans (L13.out.mono L1.out.size)
      clear hw3 cG cL cM KL L13 B1
      obtain ⟨i0, hi0, hz0, hz1, hz2⟩ := info_parts Tryz.info115
      go_upto_region 4 with (first
        | (at_make; refine wpList_make_vers _ rfl _ _ 111 115 rfl i0 Tryz.underlying111 hi0 hz0 hz1 hz2 .i64 .i64 _ _ (n + 1) (n + 1) rfl rfl (by go_num) (by go_num) (Nat.le_refl _) (by omega) ?_)
        | fail)
      obtain ⟨G, HG⟩ : ∃ G, Hid (w3.heap.size = G) := ⟨_, rfl⟩
      obtain ⟨w4, hw4⟩ : ∃ x, x = w3.alloc (.cells (VCs (List.replicate (n + 1) zv)).toArray 115 (0, 0)) := ⟨_, rfl⟩
      have b4 : Below w3.heap.size w3 w4 := by rw [hw4]; exact (Below.refl _ _).alloc (Nat.le_refl _) _
      have B4 : Hid (Blk w4 E 115 (VC v)) := B3.out.kept b4
      have L4 : Hid (Below w.heap.size w w4) := L3.out.trans (b4.mono L3.out.size)
      have G4 : Hid (Blk w4 G 115 (VCs (List.replicate (n + 1) zv))) := (show Blk _ _ _ _ by rw [hw4, ← HG.out]; exact Blk.new w3 115 _)
      have HEG : Hid (E ≠ G) := (show E ≠ G by have := B3.out.lt; rw [← HG.out]; omega)
      have HwG : Hid (w.heap.size ≤ G) := (show _ by rw [← HG.out]; exact L3.out.size)
      rw [← hw4, HG.out]
      clear hw4 b4 B3 L3
      go_wp2_with (first
        | (refine wpList_copy_over rfl _ _ 111 111 rfl 115 Tryz.underlying111 Tryz.size115 G (n + 1) (n + 1) _ L rfl rfl (HL.out.kept L4.out) (by rw [HN.out]; omega) 115 _ G4.out (by simp) ?_; intro w5 G5 T5; have B5 : Hid (Blk w5 E 115 (VC v)) := B4.out.but T5.out HEG.out; have R5 := B5.out.range0)
        | (refine wpList_load_mid rfl 115 _ rfl E 0 rfl (VC v) _ R5 Tryz.underlying115 rfl Tryz.size115 ?_)
        | (refine wpList_store_at rfl 115 _ _ rfl G n v rfl rfl 115 _ G5.out (by simp [overV, HN.out]) Tryz.size115 ?_; intro w6 G6 T6)
        | fail)
      go_ret2
      have ho := own_blk (B := w.heap.size) (L := L ++ [v]) (e := 115) (b := G) (w := w6) (by
        have := G6.out
        rw [← HN.out, overV_put] at this
        exact this) HwG.out (by simp [HN.out, maxLen]; omega)
      rw [List.length_append, HN.out] at ho
      refine ⟨_, by rw [HF.out]; rfl, ?_, ?_⟩
      · rw [putP_ok HF.out]; exact ho
      · exact (L4.out.trans (T5.out.below HwG.out L4.out.size)).trans (T6.out.below HwG.out (Nat.le_trans L4.out.size T5.out.size))
end Go.Proofs.YtcicekggeampcaaGreat
