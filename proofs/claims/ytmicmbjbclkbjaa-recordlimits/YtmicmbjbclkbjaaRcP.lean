/-
  Records as bytes, plain: what is put, what is got of bytes; each undoes the other.
-/
import Derived.Test.YtmicmbjbclkbjaaCtP
import Derived.Test.YtmicmbjbclkbjaaPlain3
import Derived.Test.YtmicmbjbclkbjaaNum
namespace Go.Proofs.Ytmicmbjbclkbjaa
open Go.RowKit
/-- A read, plain: whether a range, its key, its end, its pairs. -/
abbrev Rp : Type := Bool × ByteArray × ByteArray × List Pr
def fl (b : Bool) : List UInt8 := [if b then 1 else 0]
def eS (s : ByteArray) : List UInt8 := encS (sl s)
def eP (p : Pr) : List UInt8 := eS p.1 ++ eS p.2.1
def eL {α : Type} (e : α → List UInt8) (l : List α) : List UInt8 := enc l.length ++ l.flatMap e
def eT (b : Bool) (t : ByteArray) : List UInt8 := if b = true then eS t else []
def eR (x : Rp) : List UInt8 := fl x.1 ++ (eS x.2.1 ++ (eT x.1 x.2.2.1 ++ eL eP x.2.2.2))
def eW (p : Pr) : List UInt8 := eS p.1 ++ (fl p.2.2 ++ eT (!p.2.2) p.2.1)
/-- A record, plain. -/
structure Pd where
  ses : Nat
  snap : Nat
  st : Bool
  rs : List Rp
  ws : List Pr
def eD (d : Pd) : List UInt8 := enc d.ses ++ (enc d.snap ++ (fl d.st ++ (eL eR d.rs ++ eL eW d.ws)))
/-- What is got of bytes: a value and the bytes behind it. -/
abbrev Pa (α : Type) : Type := List UInt8 → Option (α × List UInt8)
def pN (m : Nat) : Pa Nat := fun l => if (gn l).2.2 = true ∧ (gn l).1 ≤ m then some ((gn l).1, l.drop (gn l).2.1) else none
def pF : Pa Bool := fun l => if (gf l).2.2 = true then some ((gf l).1, l.drop (gf l).2.1) else none
def pS (m : Nat) : Pa ByteArray := fun l => if (gs l m).2.2 = true then some (⟨(gs l m).1.toArray⟩, l.drop (gs l m).2.1) else none
def pK {α : Type} (g : Pa α) : Nat → Pa (List α)
  | 0, l => some ([], l)
  | n + 1, l => (g l).bind fun q => (pK g n q.2).map fun t => (q.1 :: t.1, t.2)
def pL {α : Type} (m : Nat) (g : Pa α) : Pa (List α) := fun l => (pN m l).bind fun q => pK g q.1 q.2
def pP : Pa Pr := fun l => (pS 64 l).bind fun q => (pS 256 q.2).map fun t => ((q.1, t.1, false), t.2)
def pT (b : Bool) (m : Nat) : Pa ByteArray := fun l => if b = true then pS m l else some (em, l)
def pR : Pa Rp := fun l => (pF l).bind fun a => (pS 64 a.2).bind fun k => (pT a.1 64 k.2).bind fun t => (pL 200 pP t.2).map fun p => ((a.1, k.1, t.1, p.1), p.2)
def pW : Pa Pr := fun l => (pS 64 l).bind fun k => (pF k.2).bind fun d => (pT (!d.1) 256 d.2).map fun v => ((k.1, v.1, d.1), v.2)
def pD : Pa Pd := fun l => (pN 8 l).bind fun a => (pN 1099511627776 a.2).bind fun b => (pF b.2).bind fun c => (pL 64 pR c.2).bind fun r => (pL 64 pW r.2).map fun w => (⟨a.1, b.1, c.1, r.1, w.1⟩, w.2)
theorem p8 : (256 : Nat) ^ 8 = 18446744073709551616 := by decide
theorem pN_enc {n m : Nat} (h : n ≤ m) (hm : m ≤ 1099511627776) (z : List UInt8) : pN m (enc n ++ z) = some (n, z) := by
  unfold pN
  rw [gn_enc n z (by rw [p8]; omega)]
  simp [h]
theorem pN_ok {m n : Nat} {l z : List UInt8} (h : pN m l = some (n, z)) : l = enc n ++ z ∧ n ≤ m := by
  unfold pN at h
  rcases gn_cases l with hg | ⟨n', k, hg⟩
  · rw [hg] at h; simp at h
  · rw [hg] at h
    simp only [true_and] at h
    split at h
    · rename_i hle
      simp only [Option.some.injEq, Prod.mk.injEq] at h
      obtain ⟨rfl, rfl⟩ := h
      exact ⟨by rw [(gn_ok hg).2.2.2.2, List.take_append_drop], hle⟩
    · cases h
theorem pF_fl (b : Bool) (z : List UInt8) : pF (fl b ++ z) = some (b, z) := by cases b <;> rfl
theorem pF_ok {b : Bool} {l z : List UInt8} (h : pF l = some (b, z)) : l = fl b ++ z := by
  unfold pF at h
  cases l with
  | nil => simp [gf] at h
  | cons x r =>
    by_cases hx : 1 < x.toNat
    · simp [gf, hx] at h
    · simp only [gf, if_neg hx, if_true, Option.some.injEq, Prod.mk.injEq, List.drop_succ_cons, List.drop_zero] at h
      obtain ⟨rfl, rfl⟩ := h
      have e : x = (if decide (x.toNat = 1) = true then 1 else 0) := by
        apply UInt8.toNat_inj.1
        by_cases h1 : x.toNat = 1
        · simp [h1]
        · simp [h1]; omega
      unfold fl
      rw [List.singleton_append]
      exact congrArg (· :: r) e
theorem sl_mk (l : List UInt8) : sl ⟨l.toArray⟩ = l := by simp [sl]
theorem mk_sl (s : ByteArray) : (⟨(sl s).toArray⟩ : ByteArray) = s := by
  obtain ⟨⟨x⟩⟩ := s
  rfl
theorem pS_eS {s : ByteArray} {m : Nat} (h : s.size ≤ m) (hm : m ≤ 1000000) (z : List UInt8) : pS m (eS s ++ z) = some (s, z) := by
  unfold pS eS
  have h1 := sl_length s
  rw [gs_enc (sl s) z m (by omega) (by rw [p8]; omega)]
  simp [mk_sl]
theorem pS_ok {s : ByteArray} {m : Nat} {l z : List UInt8} (h : pS m l = some (s, z)) : l = eS s ++ z ∧ s.size ≤ m := by
  unfold pS at h
  rcases gs_cases l m with hg | ⟨t, k, hg, hk, hk1, ht, htm⟩
  · rw [hg] at h; simp at h
  · rw [hg] at h
    simp only [if_true, Option.some.injEq, Prod.mk.injEq] at h
    obtain ⟨rfl, rfl⟩ := h
    refine ⟨?_, ?_⟩
    · unfold eS
      rw [sl_mk, ← ht, List.take_append_drop]
    · rw [← sl_length, sl_mk]; exact htm
theorem pK_enc {α : Type} {g : Pa α} {e : α → List UInt8} : ∀ {l : List α}, (∀ x ∈ l, ∀ z, g (e x ++ z) = some (x, z)) → ∀ z, pK g l.length (l.flatMap e ++ z) = some (l, z)
  | [], _, z => rfl
  | x :: l, h, z => by
    simp only [List.length_cons, pK, List.flatMap_cons, List.append_assoc]
    rw [h x (by simp)]
    simp only [Option.bind_some]
    rw [pK_enc fun y hy => h y (by simp [hy])]
    rfl
theorem pL_enc {α : Type} {g : Pa α} {e : α → List UInt8} {m : Nat} {l : List α} (hl : l.length ≤ m) (hm : m ≤ 1000000) (h : ∀ x ∈ l, ∀ z, g (e x ++ z) = some (x, z)) (z : List UInt8) : pL m g (eL e l ++ z) = some (l, z) := by
  unfold pL eL
  rw [List.append_assoc, pN_enc hl (by omega)]
  exact pK_enc h z
theorem pK_ok {α : Type} {g : Pa α} {e : α → List UInt8} {q : α → Prop} (h : ∀ l x z, g l = some (x, z) → l = e x ++ z ∧ q x) : ∀ {n : Nat} {l : List UInt8} {xs : List α} {z : List UInt8}, pK g n l = some (xs, z) → xs.length = n ∧ l = xs.flatMap e ++ z ∧ ∀ x ∈ xs, q x
  | 0, l, xs, z, hp => by
    simp only [pK, Option.some.injEq, Prod.mk.injEq] at hp
    obtain ⟨rfl, rfl⟩ := hp
    exact ⟨rfl, rfl, by simp⟩
  | n + 1, l, xs, z, hp => by
    simp only [pK] at hp
    cases hg : g l with
    | none => rw [hg] at hp; simp at hp
    | some u =>
      obtain ⟨x, l'⟩ := u
      rw [hg] at hp
      simp only [Option.bind_some, Option.map_eq_some_iff, Prod.exists, Prod.mk.injEq] at hp
      obtain ⟨ys, z', hk, rfl, rfl⟩ := hp
      obtain ⟨h1, h2⟩ := h _ _ _ hg
      obtain ⟨h3, h4, h5⟩ := pK_ok h hk
      refine ⟨by simp [h3], by rw [h1, h4]; simp, fun y hy => ?_⟩
      rcases List.mem_cons.1 hy with rfl | hy
      · exact h2
      · exact h5 y hy
theorem pL_ok {α : Type} {g : Pa α} {e : α → List UInt8} {q : α → Prop} {m : Nat} (h : ∀ l x z, g l = some (x, z) → l = e x ++ z ∧ q x) {l : List UInt8} {xs : List α} {z : List UInt8} (hp : pL m g l = some (xs, z)) : l = eL e xs ++ z ∧ xs.length ≤ m ∧ ∀ x ∈ xs, q x := by
  unfold pL at hp
  cases hn : pN m l with
  | none => rw [hn] at hp; simp at hp
  | some u =>
    obtain ⟨n, l'⟩ := u
    rw [hn] at hp
    simp only [Option.bind_some] at hp
    obtain ⟨h1, h2⟩ := pN_ok hn
    obtain ⟨h3, h4, h5⟩ := pK_ok h hp
    unfold eL
    rw [h3]
    exact ⟨by rw [h1, h4, List.append_assoc], h2, h5⟩
theorem pT_eT {b : Bool} {t : ByteArray} {m : Nat} (h : t.size ≤ m) (hm : m ≤ 1000000) (h0 : b = false → t = em) (z : List UInt8) : pT b m (eT b t ++ z) = some (t, z) := by
  unfold pT eT
  cases b with
  | true => simp only [if_true]; exact pS_eS h hm z
  | false => rw [h0 rfl]; rfl
theorem pT_ok {b : Bool} {t : ByteArray} {m : Nat} {l z : List UInt8} (h : pT b m l = some (t, z)) : l = eT b t ++ z ∧ t.size ≤ m ∧ (b = false → t = em) := by
  unfold pT at h
  unfold eT
  cases b with
  | true =>
    simp only [if_true] at h ⊢
    exact ⟨(pS_ok h).1, (pS_ok h).2, fun h => by cases h⟩
  | false =>
    simp only [Bool.false_eq_true, if_false, Option.some.injEq, Prod.mk.injEq] at h ⊢
    obtain ⟨rfl, rfl⟩ := h
    exact ⟨rfl, Nat.zero_le _, fun _ => rfl⟩
/-- The bounds of what bytes may say: of a pair, a read, a write. -/
def okP (p : Pr) : Prop := p.1.size ≤ 64 ∧ p.2.1.size ≤ 256 ∧ p.2.2 = false
structure okX (x : Rp) : Prop where
  k : x.2.1.size ≤ 64
  t : x.2.2.1.size ≤ 64
  s : x.1 = false → x.2.2.1 = em
  n : x.2.2.2.length ≤ 200
  p : ∀ p ∈ x.2.2.2, okP p
def okW (p : Pr) : Prop := p.1.size ≤ 64 ∧ p.2.1.size ≤ 256 ∧ (p.2.2 = true → p.2.1 = em)
structure okD (d : Pd) : Prop where
  a : d.ses ≤ 8
  b : d.snap ≤ 1099511627776
  rl : d.rs.length ≤ 64
  rs : ∀ x ∈ d.rs, okX x
  wl : d.ws.length ≤ 64
  ws : ∀ p ∈ d.ws, okW p
theorem pP_eP {p : Pr} (h : okP p) (z : List UInt8) : pP (eP p ++ z) = some (p, z) := by
  obtain ⟨k, v, d⟩ := p
  obtain ⟨h1, h2, h3⟩ := h
  simp only at h1 h2 h3
  subst h3
  unfold pP eP
  rw [List.append_assoc, pS_eS h1 (by omega)]
  simp only [Option.bind_some]
  rw [pS_eS h2 (by omega)]
  rfl
theorem pP_ok (l : List UInt8) (p : Pr) (z : List UInt8) (h : pP l = some (p, z)) : l = eP p ++ z ∧ okP p := by
  unfold pP at h
  cases hk : pS 64 l with
  | none => rw [hk] at h; simp at h
  | some u =>
    obtain ⟨k, l'⟩ := u
    rw [hk] at h
    simp only [Option.bind_some] at h
    cases hv : pS 256 l' with
    | none => rw [hv] at h; simp at h
    | some u =>
      obtain ⟨v, l''⟩ := u
      rw [hv] at h
      simp only [Option.map_some, Option.some.injEq, Prod.mk.injEq] at h
      obtain ⟨rfl, rfl⟩ := h
      obtain ⟨h1, h2⟩ := pS_ok hk
      obtain ⟨h3, h4⟩ := pS_ok hv
      exact ⟨by unfold eP; rw [h1, h3, List.append_assoc], h2, h4, rfl⟩
theorem pR_eR {x : Rp} (h : okX x) (z : List UInt8) : pR (eR x ++ z) = some (x, z) := by
  obtain ⟨b, k, t, ps⟩ := x
  obtain ⟨h1, h2, h3, h4, h5⟩ := h
  simp only at h1 h2 h3 h4 h5
  unfold pR eR
  simp only [List.append_assoc]
  rw [pF_fl]
  simp only [Option.bind_some]
  rw [pS_eS h1 (by omega)]
  simp only [Option.bind_some]
  rw [pT_eT h2 (by omega) h3]
  simp only [Option.bind_some]
  rw [pL_enc h4 (by omega) fun p hp z => pP_eP (h5 p hp) z]
  rfl
theorem pR_ok (l : List UInt8) (x : Rp) (z : List UInt8) (h : pR l = some (x, z)) : l = eR x ++ z ∧ okX x := by
  unfold pR at h
  cases hf : pF l with
  | none => rw [hf] at h; simp at h
  | some u =>
    obtain ⟨b, l1⟩ := u
    rw [hf] at h
    simp only [Option.bind_some] at h
    cases hk : pS 64 l1 with
    | none => rw [hk] at h; simp at h
    | some u =>
      obtain ⟨k, l2⟩ := u
      rw [hk] at h
      simp only [Option.bind_some] at h
      cases ht : pT b 64 l2 with
      | none => rw [ht] at h; simp at h
      | some u =>
        obtain ⟨t, l3⟩ := u
        rw [ht] at h
        simp only [Option.bind_some] at h
        cases hp : pL 200 pP l3 with
        | none => rw [hp] at h; simp at h
        | some u =>
          obtain ⟨ps, l4⟩ := u
          rw [hp] at h
          simp only [Option.map_some, Option.some.injEq, Prod.mk.injEq] at h
          obtain ⟨rfl, rfl⟩ := h
          obtain ⟨h2, h3⟩ := pS_ok hk
          obtain ⟨h4, h5, h6⟩ := pT_ok ht
          obtain ⟨h7, h8, h9⟩ := pL_ok pP_ok hp
          exact ⟨by unfold eR; rw [pF_ok hf, h2, h4, h7]; simp only [List.append_assoc], h3, h5, h6, h8, h9⟩
theorem pW_eW {p : Pr} (h : okW p) (z : List UInt8) : pW (eW p ++ z) = some (p, z) := by
  obtain ⟨k, v, d⟩ := p
  obtain ⟨h1, h2, h3⟩ := h
  simp only at h1 h2 h3
  unfold pW eW
  simp only [List.append_assoc]
  rw [pS_eS h1 (by omega)]
  simp only [Option.bind_some]
  rw [pF_fl]
  simp only [Option.bind_some]
  rw [pT_eT h2 (by omega) (by cases d <;> simp_all)]
  rfl
theorem pW_ok (l : List UInt8) (p : Pr) (z : List UInt8) (h : pW l = some (p, z)) : l = eW p ++ z ∧ okW p := by
  unfold pW at h
  cases hk : pS 64 l with
  | none => rw [hk] at h; simp at h
  | some u =>
    obtain ⟨k, l1⟩ := u
    rw [hk] at h
    simp only [Option.bind_some] at h
    cases hf : pF l1 with
    | none => rw [hf] at h; simp at h
    | some u =>
      obtain ⟨d, l2⟩ := u
      rw [hf] at h
      simp only [Option.bind_some] at h
      cases ht : pT (!d) 256 l2 with
      | none => rw [ht] at h; simp at h
      | some u =>
        obtain ⟨v, l3⟩ := u
        rw [ht] at h
        simp only [Option.map_some, Option.some.injEq, Prod.mk.injEq] at h
        obtain ⟨rfl, rfl⟩ := h
        obtain ⟨h2, h3⟩ := pS_ok hk
        obtain ⟨h4, h5, h6⟩ := pT_ok ht
        refine ⟨by unfold eW; rw [h2, pF_ok hf, h4]; simp only [List.append_assoc], h3, h5, fun hd => h6 ?_⟩
        simp only at hd
        rw [hd]
        rfl
theorem pD_eD {d : Pd} (h : okD d) (z : List UInt8) : pD (eD d ++ z) = some (d, z) := by
  obtain ⟨a, b, c, rs, ws⟩ := d
  obtain ⟨h1, h2, h3, h4, h5, h6⟩ := h
  simp only at h1 h2 h3 h4 h5 h6
  unfold pD eD
  simp only [List.append_assoc]
  rw [pN_enc h1 (by omega)]
  simp only [Option.bind_some]
  rw [pN_enc h2 (by omega)]
  simp only [Option.bind_some]
  rw [pF_fl]
  simp only [Option.bind_some]
  rw [pL_enc h3 (by omega) fun x hx z => pR_eR (h4 x hx) z]
  simp only [Option.bind_some]
  rw [pL_enc h5 (by omega) fun x hx z => pW_eW (h6 x hx) z]
  rfl
theorem pD_ok {l : List UInt8} {d : Pd} {z : List UInt8} (h : pD l = some (d, z)) : l = eD d ++ z ∧ okD d := by
  unfold pD at h
  cases ha : pN 8 l with
  | none => rw [ha] at h; simp at h
  | some u =>
    obtain ⟨a, l1⟩ := u
    rw [ha] at h
    simp only [Option.bind_some] at h
    cases hb : pN 1099511627776 l1 with
    | none => rw [hb] at h; simp at h
    | some u =>
      obtain ⟨b, l2⟩ := u
      rw [hb] at h
      simp only [Option.bind_some] at h
      cases hf : pF l2 with
      | none => rw [hf] at h; simp at h
      | some u =>
        obtain ⟨c, l3⟩ := u
        rw [hf] at h
        simp only [Option.bind_some] at h
        cases hr : pL 64 pR l3 with
        | none => rw [hr] at h; simp at h
        | some u =>
          obtain ⟨rs, l4⟩ := u
          rw [hr] at h
          simp only [Option.bind_some] at h
          cases hw : pL 64 pW l4 with
          | none => rw [hw] at h; simp at h
          | some u =>
            obtain ⟨ws, l5⟩ := u
            rw [hw] at h
            simp only [Option.map_some, Option.some.injEq, Prod.mk.injEq] at h
            obtain ⟨rfl, rfl⟩ := h
            obtain ⟨h1, h2⟩ := pN_ok ha
            obtain ⟨h3, h4⟩ := pN_ok hb
            obtain ⟨h5, h6, h7⟩ := pL_ok pR_ok hr
            obtain ⟨h8, h9, h10⟩ := pL_ok pW_ok hw
            exact ⟨by unfold eD; rw [h1, h3, pF_ok hf, h5, h8]; simp only [List.append_assoc], h2, h4, h6, h7, h9, h10⟩
/-- Two with the same bytes are alike; a part ahead of the end is none. -/
theorem eD_inj {d e : Pd} (hd : okD d) (he : okD e) (h : eD d = eD e) : d = e := by
  have h1 := pD_eD hd []
  rw [h, pD_eD he []] at h1
  simp only [Option.some.injEq, Prod.mk.injEq, and_true] at h1
  exact h1.symm
theorem pD_cut {d e : Pd} (hd : okD d) {c : Nat} (hc : c < (eD d).length) : pD ((eD d).take c) ≠ some (e, []) := fun h => by
  obtain ⟨h1, h2⟩ := pD_ok h
  rw [List.append_nil] at h1
  have h3 := pD_eD h2 ((eD d).drop c)
  rw [← h1, List.take_append_drop] at h3
  have h4 := pD_eD hd []
  rw [List.append_nil, h3] at h4
  simp only [Option.some.injEq, Prod.mk.injEq] at h4
  have h5 := congrArg List.length h4.2
  simp at h5
  omega
theorem eD_pos (d : Pd) : 0 < (eD d).length := by
  unfold eD
  have := enc_length d.ses
  rw [List.length_append]
  omega
theorem eS_length (s : ByteArray) : (eS s).length ≤ 9 + s.size := by
  unfold eS encS
  have := enc_length (sl s).length
  rw [List.length_append, sl_length] at *
  omega
theorem fm_length {α : Type} {e : α → List UInt8} {B : Nat} : ∀ {l : List α}, (∀ x ∈ l, (e x).length ≤ B) → (l.flatMap e).length ≤ l.length * B
  | [], _ => by simp
  | x :: l, h => by
    have h1 := h x (by simp)
    have h2 := fm_length (l := l) fun y hy => h y (by simp [hy])
    rw [List.flatMap_cons, List.length_append, List.length_cons, Nat.add_mul]
    omega
theorem eP_length {p : Pr} (h : p.1.size ≤ 64) (h2 : p.2.1.size ≤ 256) : (eP p).length ≤ 338 := by
  unfold eP
  have h3 := eS_length p.1
  have h4 := eS_length p.2.1
  rw [List.length_append]
  omega
theorem eT_length (b : Bool) (t : ByteArray) : (eT b t).length ≤ 9 + t.size := by
  unfold eT
  split
  · exact eS_length t
  · simp
theorem eL_length {α : Type} {e : α → List UInt8} {B m : Nat} {l : List α} (hl : l.length ≤ m) (h : ∀ x ∈ l, (e x).length ≤ B) : (eL e l).length ≤ 9 + m * B := by
  unfold eL
  have h1 := enc_length l.length
  have h2 := fm_length h
  have h3 := Nat.mul_le_mul_right B hl
  rw [List.length_append]
  omega
theorem eR_length {x : Rp} (h : okX x) : (eR x).length ≤ 67800 := by
  unfold eR
  have h1 := eS_length x.2.1
  have h2 := eT_length x.1 x.2.2.1
  have h3 := eL_length (e := eP) (B := 338) h.n fun p hp => eP_length (h.p p hp).1 (h.p p hp).2.1
  have h4 := h.k
  have h5 := h.t
  simp only [List.length_append, fl, List.length_singleton]
  omega
theorem eW_length {p : Pr} (h : okW p) : (eW p).length ≤ 400 := by
  unfold eW
  have h1 := eS_length p.1
  have h2 := eT_length (!p.2.2) p.2.1
  have h3 := h.1
  have h4 := h.2.1
  simp only [List.length_append, fl, List.length_singleton]
  omega
end Go.Proofs.Ytmicmbjbclkbjaa
