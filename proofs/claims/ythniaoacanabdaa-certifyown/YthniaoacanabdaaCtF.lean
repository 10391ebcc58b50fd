/-
  What follows of Own, plain: once more nothing goes; ranges all stay; what is stale is stale still.
-/
import Derived.Test.YthniaoacanabdaaCtP
namespace Go.Proofs.Ythniaoacanabdaa
open Go.RowKit
theorem plR_eq {x y : Rz} : plR x = plR y ↔ x.sc = y.sc ∧ x.k = y.k ∧ x.t = y.t ∧ x.ps = y.ps := by simp [plR]
theorem again_pl {A B : List Rz} {x y : Rz} (h : A.map plR = B.map plR) (hx : plR x = plR y) : again A x = again B y := by
  obtain ⟨h1, h2, -, -⟩ := plR_eq.1 hx
  induction A generalizing B with
  | nil =>
    cases B with
    | nil => rfl
    | cons b B => simp at h
  | cons a A ih =>
    cases B with
    | nil => simp at h
    | cons b B =>
      rw [List.map_cons, List.map_cons, List.cons.injEq] at h
      obtain ⟨g1, g2, -, -⟩ := plR_eq.1 h.1
      have e := ih h.2
      unfold again at e ⊢
      rw [List.any_cons, List.any_cons, e, h1, h2, g1, g2]
theorem again_app {A B : List Rz} {x : Rz} : again (A ++ B) x = (again A x || again B x) := by
  unfold again
  rw [List.any_append]
theorem own_app : ∀ (l m acc : List Rz), ownA acc (l ++ m) = ownA (ownA acc l) m
  | [], m, acc => rfl
  | x :: l, m, acc => by
    show (if again acc x = true then ownA acc (l ++ m) else ownA (acc ++ [x]) (l ++ m)) = ownA (if again acc x = true then ownA acc l else ownA (acc ++ [x]) l) m
    split
    · exact own_app l m acc
    · exact own_app l m _
theorem own_fresh : ∀ (l acc : List Rz), ∃ t, ownA acc l = acc ++ t ∧ ∀ y ∈ t, again acc y = false
  | [], acc => ⟨[], by simp [ownA], by simp⟩
  | x :: l, acc => by
    show ∃ t, (if again acc x = true then ownA acc l else ownA (acc ++ [x]) l) = acc ++ t ∧ _
    cases h : again acc x with
    | true =>
      rw [if_pos rfl]
      exact own_fresh l acc
    | false =>
      rw [if_neg (by simp)]
      obtain ⟨t, h1, h2⟩ := own_fresh l (acc ++ [x])
      refine ⟨x :: t, by rw [h1]; simp, fun y hy => ?_⟩
      rcases List.mem_cons.1 hy with rfl | hy
      · exact h
      · have := h2 y hy
        rw [again_app, Bool.or_eq_false_iff] at this
        exact this.1
/-- How many ranges. -/
def nsc (l : List Rz) : Nat := (l.filter fun x => x.sc).length
theorem nsc_app (l m : List Rz) : nsc (l ++ m) = nsc l + nsc m := by simp [nsc]
theorem nsc_one (x : Rz) : nsc [x] = if x.sc = true then 1 else 0 := by
  unfold nsc
  cases h : x.sc <;> simp [h]
theorem again_sc {acc : List Rz} {x : Rz} (h : again acc x = true) : x.sc = false := by
  obtain ⟨y, -, h2⟩ := List.any_eq_true.1 h
  simp only [Bool.and_eq_true, Bool.not_eq_true'] at h2
  exact h2.1.1
theorem own_nsc : ∀ (l acc : List Rz), nsc (ownA acc l) = nsc acc + nsc l
  | [], acc => by simp [ownA, nsc]
  | x :: l, acc => by
    have e : nsc (x :: l) = nsc [x] + nsc l := nsc_app [x] l
    show nsc (if again acc x = true then ownA acc l else ownA (acc ++ [x]) l) = _
    cases h : again acc x with
    | true =>
      rw [if_pos rfl, own_nsc l acc, e, nsc_one, again_sc h]
      simp
    | false =>
      rw [if_neg (by simp), own_nsc l _, nsc_app, e]
      omega
theorem nsc_pl {A B : List Rz} (h : A.map plR = B.map plR) : nsc A = nsc B := by
  induction A generalizing B with
  | nil =>
    cases B with
    | nil => rfl
    | cons b B => simp at h
  | cons a A ih =>
    cases B with
    | nil => simp at h
    | cons b B =>
      rw [List.map_cons, List.map_cons, List.cons.injEq] at h
      have e1 : nsc (a :: A) = nsc [a] + nsc A := nsc_app [a] A
      have e2 : nsc (b :: B) = nsc [b] + nsc B := nsc_app [b] B
      rw [e1, e2, ih h.2, nsc_one, nsc_one, (plR_eq.1 h.1).1]
theorem own_any {f : Rz → Bool} (hf : ∀ x y : Rz, x.sc = false → y.sc = false → x.k = y.k → f x = f y) : ∀ (l acc : List Rz), (ownA acc l).any f = (acc.any f || l.any f)
  | [], acc => by simp [ownA]
  | x :: l, acc => by
    show (if again acc x = true then ownA acc l else ownA (acc ++ [x]) l).any f = _
    rw [List.any_cons]
    cases h : again acc x with
    | true =>
      rw [if_pos rfl, own_any hf l acc]
      obtain ⟨y, hy, h2⟩ := List.any_eq_true.1 h
      simp only [Bool.and_eq_true, Bool.not_eq_true', beq_iff_eq] at h2
      have e := hf x y h2.1.1 h2.1.2 (ba_inj.1 h2.2)
      cases hx : f x with
      | false => simp
      | true =>
        have : acc.any f = true := List.any_eq_true.2 ⟨y, hy, by rw [← e]; exact hx⟩
        rw [this]
        rfl
    | false =>
      rw [if_neg (by simp), own_any hf l _, List.any_append]
      simp [Bool.or_assoc]
theorem any_pl {f : Rz → Bool} (hf : ∀ x y : Rz, plR x = plR y → f x = f y) {A B : List Rz} (h : A.map plR = B.map plR) : A.any f = B.any f := by
  induction A generalizing B with
  | nil =>
    cases B with
    | nil => rfl
    | cons b B => simp at h
  | cons a A ih =>
    cases B with
    | nil => simp at h
    | cons b B =>
      rw [List.map_cons, List.map_cons, List.cons.injEq] at h
      rw [List.any_cons, List.any_cons, ih h.2, hf a b h.1]
/-- A record with other reads. -/
def rdR (r : Rc) (Q : List Rz) (a : Option Addr) (c : Nat) : Rc := ⟨r.ses, r.snap, r.st, Q, r.ws, a, c, r.wa, r.wc⟩
theorem ask_pl {x y : Rz} (h : plR x = plR y) (k : ByteArray) : askP x k = askP y k := by
  obtain ⟨h1, h2, h3, -⟩ := plR_eq.1 h
  unfold askP
  rw [h1, h2, h3]
theorem stale_own {r : Rc} {Q : List Rz} (h : Q.map plR = (ownP r.rs).map plR) (a : Option Addr) (c : Nat) (L : List Rc) : staleP (rdR r Q a c) L = staleP r L := by
  unfold staleP
  refine fst_congr fun o _ => ?_
  rw [hit_stale, hit_stale]
  show Q.any (fun x => touchP o x) = r.rs.any fun x => touchP o x
  have h1 : ∀ x y : Rz, plR x = plR y → touchP o x = touchP o y := fun x y e => by
    unfold touchP
    congr 1
    funext p
    exact ask_pl e p.1
  rw [any_pl h1 h]
  unfold ownP
  rw [own_any (f := fun x => touchP o x) (fun x y e1 e2 e3 => by
    unfold touchP
    congr 1
    funext p
    unfold askP
    rw [e1, e2, e3]
    rfl)]
  simp
/-- None is read again. -/
def Fr (acc : List Rz) : List Rz → Prop
  | [] => True
  | x :: l => again acc x = false ∧ Fr (acc ++ [x]) l
theorem fr_own : ∀ {l acc : List Rz}, Fr acc l → ownA acc l = acc ++ l
  | [], acc, _ => by simp [ownA]
  | x :: l, acc, h => by
    show (if again acc x = true then ownA acc l else ownA (acc ++ [x]) l) = _
    rw [if_neg (by rw [h.1]; simp), fr_own h.2]
    simp
theorem fr_snoc : ∀ {l acc : List Rz} {x : Rz}, Fr acc l → again (acc ++ l) x = false → Fr acc (l ++ [x])
  | [], acc, x, _, h => ⟨by simpa using h, trivial⟩
  | y :: l, acc, x, h, h2 => ⟨h.1, fr_snoc h.2 (by simpa using h2)⟩
theorem own_fr : ∀ {l acc : List Rz}, Fr [] acc → Fr [] (ownA acc l)
  | [], acc, h => h
  | x :: l, acc, h => by
    show Fr [] (if again acc x = true then ownA acc l else ownA (acc ++ [x]) l)
    cases hq : again acc x with
    | true =>
      rw [if_pos rfl]
      exact own_fr h
    | false =>
      rw [if_neg (by simp)]
      exact own_fr (fr_snoc h (by simpa using hq))
theorem fr_pl : ∀ {l m acc acc' : List Rz}, l.map plR = m.map plR → acc.map plR = acc'.map plR → Fr acc l → Fr acc' m
  | [], [], _, _, _, _, _ => trivial
  | [], b :: m, _, _, h, _, _ => by simp at h
  | a :: l, [], _, _, h, _, _ => by simp at h
  | a :: l, b :: m, acc, acc', h, h2, hf => by
    rw [List.map_cons, List.map_cons, List.cons.injEq] at h
    refine ⟨by rw [← again_pl h2 h.1]; exact hf.1, fr_pl h.2 ?_ hf.2⟩
    rw [List.map_append, List.map_append, h2, List.map_singleton, List.map_singleton, h.1]
theorem own_again {rs Q : List Rz} (h : Q.map plR = (ownP rs).map plR) : ownP Q = Q := by
  have h1 : Fr [] (ownP rs) := own_fr trivial
  have h2 : Fr [] Q := fr_pl h.symm rfl h1
  have := fr_own h2
  simpa [ownP] using this
/-- How many of those kept were met, and whether the next one is this one. -/
theorem own_next {rs Q : List Rz} (h : Q.map plR = (ownP rs).map plR) {i : Nat} (hi : i < rs.length) :
    (ownP (rs.take (i + 1))).length = (ownP (rs.take i)).length + (if again (ownP (rs.take i)) rs[i] = true then 0 else 1) ∧
    ((ownP (rs.take i)).length ≤ Q.length) ∧
    (again (ownP (rs.take i)) rs[i] = false → ∃ hk : (ownP (rs.take i)).length < Q.length, plR Q[(ownP (rs.take i)).length] = plR rs[i]) ∧
    (again (ownP (rs.take i)) rs[i] = true → ∀ hk : (ownP (rs.take i)).length < Q.length, ¬ plR Q[(ownP (rs.take i)).length] = plR rs[i]) := by
  obtain ⟨A, hA⟩ : ∃ A, ownP (rs.take i) = A := ⟨_, rfl⟩
  have e1 : rs.take (i + 1) = rs.take i ++ [rs[i]] := List.take_succ_eq_append_getElem hi
  have e2 : rs = rs.take i ++ (rs[i] :: rs.drop (i + 1)) := by
    rw [← List.drop_eq_getElem_cons hi, List.take_append_drop]
  have f1 : ownP (rs.take (i + 1)) = ownA A [rs[i]] := by
    unfold ownP
    rw [e1, own_app]
    show ownA (ownP (rs.take i)) _ = _
    rw [hA]
  have f2 : ownP rs = ownA A (rs[i] :: rs.drop (i + 1)) := by
    have : ownP rs = ownP (rs.take i ++ (rs[i] :: rs.drop (i + 1))) := congrArg ownP e2
    rw [this]
    unfold ownP
    rw [own_app]
    show ownA (ownP (rs.take i)) _ = _
    rw [hA]
  rw [hA, f1]
  have hlen : Q.length = (ownP rs).length := by have := congrArg List.length h; simpa using this
  have hget : ∀ j (hj : j < Q.length) (hj2 : j < (ownP rs).length), plR Q[j] = plR (ownP rs)[j] := fun j hj hj2 => by
    have e : (Q.map plR)[j]? = ((ownP rs).map plR)[j]? := by rw [h]
    rw [List.getElem?_map, List.getElem?_map, List.getElem?_eq_getElem hj, List.getElem?_eq_getElem hj2] at e
    simpa using e
  generalize rs[i] = x at *
  generalize rs.drop (i + 1) = l at *
  cases hag : again A x with
  | true =>
    have g1 : ownA A [x] = A := by simp [ownA, hag]
    have g2 : ownA A (x :: l) = ownA A l := by simp [ownA, hag]
    obtain ⟨t, ht, hfr⟩ := own_fresh l A
    rw [g2, ht] at f2
    refine ⟨by rw [g1]; simp, by rw [hlen, f2]; simp, fun h => (by cases h), fun _ hk e => ?_⟩
    have hk2 : A.length < (ownP rs).length := by rw [← hlen]; exact hk
    rw [hget _ hk hk2] at e
    have hmem : (ownP rs)[A.length] ∈ t := by
      have : (ownP rs)[A.length]? = t[0]? := by rw [f2, List.getElem?_append_right (Nat.le_refl _), Nat.sub_self]
      rw [List.getElem?_eq_getElem hk2] at this
      exact List.mem_of_getElem? this.symm
    have h9 := hfr _ hmem
    rw [again_pl rfl e, hag] at h9
    cases h9
  | false =>
    have g1 : ownA A [x] = A ++ [x] := by simp [ownA, hag]
    have g2 : ownA A (x :: l) = ownA (A ++ [x]) l := by simp [ownA, hag]
    obtain ⟨t, ht, hfr⟩ := own_fresh l (A ++ [x])
    rw [g2, ht] at f2
    have hk2 : A.length < (ownP rs).length := by rw [f2]; simp
    have hk : A.length < Q.length := by rw [hlen]; exact hk2
    refine ⟨by rw [g1]; simp, Nat.le_of_lt hk, fun _ => ⟨hk, ?_⟩, fun h => (by cases h)⟩
    rw [hget _ hk hk2]
    have : (ownP rs)[A.length]? = some x := by rw [f2]; simp
    rw [List.getElem?_eq_getElem hk2] at this
    simp at this
    rw [this]
end Go.Proofs.Ythniaoacanabdaa
