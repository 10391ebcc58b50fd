/-
  Two lists side by side, plain; the reference's Rises: what the call does.
-/
import Derived.Test.YtfjlkncliljjnaaBfZ
import Derived.Test.YtfjlkncliljjnaaBfI
namespace Go.Proofs.Ytfjlkncliljjnaa
open Go.RowKit
theorem bs_adj : ∀ {L : List Pr}, (∀ j (h : j + 1 < L.length), lt (L[j]'(by omega)).1 L[j + 1].1 = true) → Bs L
  | [], _ => List.Pairwise.nil
  | [p], _ => List.pairwise_singleton _ _
  | p :: q :: L, h => by
    have ih := bs_adj (L := q :: L) (fun j hj => h (j + 1) (by simpa using hj))
    have h0 : lt p.1 q.1 = true := h 0 (by simp)
    refine List.pairwise_cons.2 ⟨fun x hx => ?_, ih⟩
    rcases List.mem_cons.1 hx with rfl | hx
    · exact h0
    · exact lt_trans h0 ((List.pairwise_cons.1 ih).1 x hx)
theorem bs_get {L : List Pr} (h : Bs L) {i j : Nat} (hij : i < j) (hj : j < L.length) : lt (L[i]'(by omega)).1 L[j].1 = true := List.pairwise_iff_getElem.1 h i j (by omega) hj hij
theorem mrg_mem : ∀ (n : Nat) {l w : List Pr}, l.length + w.length = n → ∀ x ∈ mrg l w, x ∈ l ∨ x ∈ w := by
  intro n
  induction n using Nat.strongRecOn with
  | _ n ih =>
    intro l w hn x hx
    cases h : nxt l w with
    | none => rw [mrg_none h] at hx; cases hx
    | some y =>
      have hl := nxt_len h
      have hy := ih _ (by omega) (l := y.2.1) (w := y.2.2) rfl x
      rw [mrg_some h] at hx
      have key : (y.1 ∈ l ∨ y.1 ∈ w) ∧ (∀ z ∈ y.2.1, z ∈ l) ∧ (∀ z ∈ y.2.2, z ∈ w) := by
        cases l <;> cases w
        · cases h
        · cases h; exact ⟨.inr (by simp), by simp, fun z hz => by simp [hz]⟩
        · cases h; exact ⟨.inl (by simp), fun z hz => by simp [hz], by simp⟩
        · simp only [nxt] at h
          split at h
          · cases h; exact ⟨.inl (by simp), fun z hz => by simp [hz], fun z hz => hz⟩
          · split at h
            · cases h; exact ⟨.inr (by simp), fun z hz => by simp [hz], fun z hz => by simp [hz]⟩
            · cases h; exact ⟨.inr (by simp), fun z hz => hz, fun z hz => by simp [hz]⟩
      rcases List.mem_cons.1 hx with rfl | hx
      · exact key.1
      · rcases hy hx with h1 | h1
        · exact .inl (key.2.1 _ h1)
        · exact .inr (key.2.2 _ h1)
theorem orElse_none_left {α : Type} (x : Option α) : (none : Option α).orElse (fun _ => x) = x := rfl
theorem mrg_ok : ∀ (n : Nat) {l w : List Pr}, l.length + w.length = n → Bs l → Bs w → Bs (mrg l w) ∧ ∀ k, getB (mrg l w) k = (getB w k).orElse (fun _ => getB l k) := by
  intro n
  induction n using Nat.strongRecOn with
  | _ n ih =>
    intro l w hn hl hw
    have low : ∀ {x : Pr} {l' w' : List Pr}, (∀ z ∈ l', lt x.1 z.1 = true) → (∀ z ∈ w', lt x.1 z.1 = true) → Bs (mrg l' w') → Bs (x :: mrg l' w') := fun {x l' w'} h1 h2 h3 =>
      List.pairwise_cons.2 ⟨fun z hz => by
        rcases mrg_mem _ rfl z hz with h | h
        · exact h1 z h
        · exact h2 z h, h3⟩
    have out : ∀ {x : ByteArray} {l' : List Pr}, (∀ z ∈ l', lt x z.1 = true) → getB l' x = none := fun {x l'} h => getB_none fun z hz e => by
      have := h z hz
      rw [e, lt_irrefl] at this
      cases this
    cases l with
    | nil =>
      cases w with
      | nil => exact ⟨List.Pairwise.nil, fun k => rfl⟩
      | cons q w =>
        have e : nxt [] (q :: w) = some (q, [], w) := rfl
        obtain ⟨h1, h2⟩ := List.pairwise_cons.1 hw
        obtain ⟨i1, i2⟩ := ih ([].length + w.length) (by rw [← hn]; simp) (l := []) (w := w) rfl hl h2
        rw [mrg_some e]
        refine ⟨low (by simp) h1 i1, fun k => ?_⟩
        show getB (q :: mrg [] w) k = (getB (q :: w) k).orElse fun _ => getB [] k
        have i3 : getB (mrg [] w) k = (getB w k).orElse fun _ => none := i2 k
        rw [getB.eq_2 k q (mrg [] w), getB.eq_2 k q w, i3]
        by_cases hk : q.1 = k
        · rw [if_pos hk, if_pos hk]; rfl
        · rw [if_neg hk, if_neg hk]; rfl
    | cons p l =>
      obtain ⟨g1, g2⟩ := List.pairwise_cons.1 hl
      cases w with
      | nil =>
        have e : nxt (p :: l) [] = some (p, l, []) := rfl
        obtain ⟨i1, i2⟩ := ih (l.length + ([] : List Pr).length) (by rw [← hn]; simp) (l := l) (w := []) rfl g2 hw
        rw [mrg_some e]
        refine ⟨low g1 (by simp) i1, fun k => ?_⟩
        show getB (p :: mrg l []) k = getB (p :: l) k
        have i3 : getB (mrg l []) k = getB l k := i2 k
        rw [getB, getB, i3]
      | cons q w =>
        obtain ⟨h1, h2⟩ := List.pairwise_cons.1 hw
        cases hlt : lt p.1 q.1 with
        | true =>
          have e : nxt (p :: l) (q :: w) = some (p, l, q :: w) := by simp only [nxt]; rw [if_pos hlt]
          obtain ⟨i1, i2⟩ := ih (l.length + (q :: w).length) (by rw [← hn]; simp) (l := l) (w := q :: w) rfl g2 hw
          have hqw : ∀ z ∈ q :: w, lt p.1 z.1 = true := fun z hz => by
            rcases List.mem_cons.1 hz with rfl | hz
            · exact hlt
            · exact lt_trans hlt (h1 z hz)
          rw [mrg_some e]
          refine ⟨low g1 hqw i1, fun k => ?_⟩
          show getB (p :: mrg l (q :: w)) k = (getB (q :: w) k).orElse fun _ => getB (p :: l) k
          rw [getB, getB.eq_2 k p l, i2 k]
          by_cases hk : p.1 = k
          · subst hk
            rw [if_pos rfl, if_pos rfl, out hqw]
            rfl
          · rw [if_neg hk, if_neg hk]
        | false =>
          by_cases hpq : p.1 = q.1
          · have e : nxt (p :: l) (q :: w) = some (q, l, w) := by simp only [nxt]; rw [if_neg (by rw [hlt]; simp), if_pos hpq]
            obtain ⟨i1, i2⟩ := ih (l.length + w.length) (by rw [← hn]; simp; omega) (l := l) (w := w) rfl g2 h2
            rw [mrg_some e]
            refine ⟨low (fun z hz => by show lt q.1 z.1 = true; rw [← hpq]; exact g1 z hz) h1 i1, fun k => ?_⟩
            show getB (q :: mrg l w) k = (getB (q :: w) k).orElse fun _ => getB (p :: l) k
            rw [getB, getB.eq_2 k q w, getB.eq_2 k p l, i2 k]
            by_cases hk : q.1 = k
            · rw [if_pos hk, if_pos hk]; rfl
            · rw [if_neg hk, if_neg hk, if_neg (by rw [hpq]; exact hk)]
          · have e : nxt (p :: l) (q :: w) = some (q, p :: l, w) := by simp only [nxt]; rw [if_neg (by rw [hlt]; simp), if_neg hpq]
            have hqp : lt q.1 p.1 = true := by
              cases hq : lt q.1 p.1 with
              | true => rfl
              | false => exact absurd (lt_total hlt hq) hpq
            obtain ⟨i1, i2⟩ := ih ((p :: l).length + w.length) (by rw [← hn]; simp) (l := p :: l) (w := w) rfl hl h2
            rw [mrg_some e]
            refine ⟨low (fun z hz => ?_) h1 i1, fun k => ?_⟩
            · rcases List.mem_cons.1 hz with rfl | hz
              · exact hqp
              · exact lt_trans hqp (g1 z hz)
            · show getB (q :: mrg (p :: l) w) k = (getB (q :: w) k).orElse fun _ => getB (p :: l) k
              rw [getB, getB.eq_2 k q w, i2 k]
              by_cases hk : q.1 = k
              · rw [if_pos hk, if_pos hk]; rfl
              · rw [if_neg hk, if_neg hk]
theorem ovl_srt {l w : List Pr} (hl : Bs l) (hw : Bs w) : Bs (ovl l w) := List.Pairwise.filter _ (mrg_ok _ rfl hl hw).1
/-- Is a pair of that key and value there, alive? -/
def fnd (O : List Pr) (k v : ByteArray) : Bool := O.any fun q => decide (q.1 = k) && decide (q.2.1 = v) && !q.2.2
theorem fnd_step {O : List Pr} {i : Nat} (hi : i < O.length) (k v : ByteArray) : fnd (O.take (i + 1)) k v = (fnd (O.take i) k v || (decide (O[i].1 = k) && decide (O[i].2.1 = v) && !O[i].2.2)) := by
  unfold fnd
  rw [List.take_succ_eq_append_getElem hi, List.any_append]
  simp
/-- What was written, or else what was there, is found if it lives. -/
theorem fnd_ovl {l w : List Pr} (hl : Bs l) (hw : Bs w) {p g : Pr} (hp : p ∈ l ++ w) (hg : (getB w p.1).getD p = g) : fnd (ovl l w) p.1 g.2.1 = !g.2.2 := by
  obtain ⟨m1, m2⟩ := mrg_ok _ rfl hl hw
  have hG : getB (mrg l w) p.1 = some g := by
    rw [m2]
    cases h : getB w p.1 with
    | some q =>
      rw [h] at hg
      subst hg
      rfl
    | none =>
      rw [h] at hg
      subst hg
      rcases List.mem_append.1 hp with hp | hp
      · exact getB_mem hl hp
      · rw [getB_mem hw hp] at h
        cases h
  obtain ⟨gk, gm⟩ := getB_key hG
  rw [Bool.eq_iff_iff]
  unfold fnd ovl livL
  simp only [List.any_eq_true, List.mem_filter, Bool.not_eq_true', Bool.and_eq_true, decide_eq_true_eq]
  constructor
  · rintro ⟨q, ⟨q1, q2⟩, ⟨q3, q4⟩, q5⟩
    have := getB_mem m1 q1
    rw [q3, hG] at this
    cases this
    exact q2
  · intro h
    exact ⟨g, ⟨gm, h⟩, ⟨gk, rfl⟩, h⟩
/-- What Rises answers. -/
def Rs (b : Bool) (A : List Pr) : Prop := b = true ↔ Bs A
set_option maxRecDepth 100000 in
set_option maxHeartbeats 1000000 in
theorem rises_any {u : Value} {A : List Pr} {w : World} (hu : RdG PE w u A) :
    Calls Try.prog 20 #[u] w fun e w' => ∃ b, e = .returned (.bool b) ∧ Below w.heap.size w w' ∧ Rs b A := by
  have H4 := hide hu
  obtain ⟨a, cap, rfl⟩ := hu.slice
  have hm := Nat.le_trans hu.cap hu.max
  clear hu
  obtain ⟨n, HN⟩ : ∃ n, Hid (A.length = n) := ⟨_, rfl⟩
  rw [HN.out] at hm H4 ⊢
  go_enter Try.func20, Try.ntmps20
  go_wp2_with fail
  go_loopg [3] (n + 1) (fun g z wr => ∃ i : Nat, i ≤ n ∧ g + i = n + 1 ∧ z = .int .i64 ((i : Int) + 1) ∧ Hid (∀ j (h : j + 1 < A.length), j + 1 ≤ i → lt (A[j]'(by omega)).1 A[j + 1].1 = true) ∧ Hid (Below w.heap.size w wr))
  case atStart => exact ⟨0, Nat.zero_le _, by omega, rfl, (show _ from fun j h h2 => by omega), Below.refl _ _⟩
  case round =>
    obtain ⟨i, hi, hg, rfl, HT, BL⟩ := hrel
    by_cases hlt : i + 1 < n
    · have hlt' : (i : Int) + 1 < (n : Int) := by omega
      have q1 : decide ((i : Int) + 1 < (n : Int)) = true := by simp; omega
      have hlt2 : i + 1 < A.length := by rw [HN.out]; exact hlt
      have hlt3 : i < A.length := by omega
      obtain ⟨b, off, rfl, hb1, hc⟩ := (H4.out.kept BL.out).nth (by omega)
      have rx := hc (i + 1) hlt2
      have ry := hc i hlt3
      obtain ⟨p, HP⟩ : ∃ p, Hid (A[i + 1] = p) := ⟨A[i + 1], (show A[i + 1] = A[i + 1] from rfl)⟩
      obtain ⟨r, HR⟩ : ∃ r, Hid (A[i] = r) := ⟨A[i], (show A[i] = A[i] from rfl)⟩
      rw [HP.out] at rx
      rw [HR.out] at ry
      have kp := cell_regrown (show wr.cell? ⟨b, off + (i + 1) * 3, none⟩ = some (.string p.1) from rx 0 _ rfl)
      have kr := cell_regrown (show wr.cell? ⟨b, off + i * 3, none⟩ = some (.string r.1) from ry 0 _ rfl)
      have hle := sle 9 p.1 r.1
      clear hc rx ry
      go_upto_region 4 with fail
      refine wp_region_quiet_below Try.mixed (by kernel_rfl) ?_
      iterate 12 (go_big_quiet_step (fail))
      refine wpQuiet_nil ?_
      intro w3 hw3
      have L3 : Hid (Below w.heap.size w w3) := (show Below _ _ _ by obtain ⟨⟨dq, osq⟩, rfl⟩ := hw3; exact BL.out.trans ((below_regrown wr dq osq).mono BL.out.size))
      clear hw3 kp kr hle
      obtain ⟨q, HQ⟩ : ∃ q, Hid (lt r.1 p.1 = q) := ⟨_, rfl⟩
      try rw [HQ.out]
      cases q with
      | true =>
        go_wp2_with fail
        go_roundg (n - i)
        case measure => omega
        case rel => exact ⟨i + 1, by omega, by omega, by go_num, (show _ from fun j h h2 => by
          by_cases hj : j = i
          · subst hj
            rw [HR.out, HP.out]
            exact HQ.out
          · exact HT.out j h (by omega)), L3⟩
      | false =>
        have HBs : Hid (Rs false A) := (show (false = true ↔ Bs A) by
          refine ⟨fun h => ?_, fun h => ?_⟩
          · cases h
          · have := bs_get h (show i < i + 1 by omega) hlt2
            rw [HR.out, HP.out, HQ.out] at this
            cases this)
        go_wp2_with fail
        go_ret
        first | exact ⟨false, rfl, L3.out, HBs.out⟩ | exact Or.inl ⟨rfl, L3.out, HBs.out⟩
    · have hlt' : ¬ (i : Int) + 1 < (n : Int) := by omega
      have q1 : decide ((i : Int) + 1 < (n : Int)) = false := by simp; omega
      have HBs : Hid (Rs true A) := (show (true = true ↔ Bs A) from ⟨fun _ => bs_adj fun j h => HT.out j h (by have := HN.out; omega), fun _ => rfl⟩)
      go_wp2_with fail
      go_ret
      exact Or.inr ⟨rfl, BL.out, HBs.out⟩
end Go.Proofs.Ytfjlkncliljjnaa
