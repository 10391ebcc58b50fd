/-
  Install and Collect, plain.
-/
import Derived.Test.YtgaoionnfkbhaaaStA
namespace Go.Proofs.Ytgaoionnfkbhaaa
open Go.RowKit
theorem goodP_at : ∀ {l : List Pr} {last : ByteArray}, goodP last l = true → ∀ p ∈ l, lt last p.1 = true ∧ p.1.size ≤ 64 ∧ p.2.1.size ≤ 256 ∧ (!p.2.2 || p.2.1.toList.isEmpty) = true
  | [], _, _, p, hp => by cases hp
  | q :: l, last, h, p, hp => by
    rw [goodP, Bool.and_eq_true] at h
    have h1 := h.1
    unfold pOk at h1
    simp only [Bool.and_eq_true, decide_eq_true_eq] at h1
    obtain ⟨⟨⟨a1, a2⟩, a3⟩, a4⟩ := h1
    rcases List.mem_cons.1 hp with rfl | hp
    · exact ⟨a1, a2, a3, a4⟩
    · obtain ⟨b1, b2, b3, b4⟩ := goodP_at h.2 p hp
      exact ⟨lt_trans a1 b1, b2, b3, b4⟩
theorem goodP_srt : ∀ {l : List Pr} {last : ByteArray}, goodP last l = true → Srt (l.map (·.1))
  | [], _, _ => List.Pairwise.nil
  | q :: l, last, h => by
    rw [goodP, Bool.and_eq_true] at h
    refine List.pairwise_cons.2 ⟨fun k hk => ?_, goodP_srt h.2⟩
    obtain ⟨p, hp, rfl⟩ := List.mem_map.1 hk
    exact (goodP_at h.2 p hp).1
theorem addL_none {n : Int} {k : ByteArray} : ∀ {l : List Pr} {ch : ByteArray → List Ver}, k ∉ l.map (·.1) → addL ch n l k = ch k
  | [], _, _ => rfl
  | q :: l, ch, h => by
    have h1 : k ≠ q.1 := fun e => h (by simp [e])
    have h2 : k ∉ l.map (·.1) := fun e => h (List.mem_cons_of_mem _ e)
    show addL (add1 ch n q) n l k = ch k
    rw [addL_none h2]
    unfold add1
    rw [if_neg h1]
theorem addL_some {n : Int} {p : Pr} : ∀ {l : List Pr} {ch : ByteArray → List Ver}, Srt (l.map (·.1)) → p ∈ l → addL ch n l p.1 = ch p.1 ++ [verOf n p]
  | [], _, _, h => by cases h
  | q :: l, ch, hs, h => by
    obtain ⟨h1, h2⟩ := List.pairwise_cons.1 hs
    show addL (add1 ch n q) n l p.1 = _
    rcases List.mem_cons.1 h with rfl | h
    · rw [addL_none (fun e => by have := h1 _ e; rw [lt_irrefl] at this; cases this)]
      unfold add1
      rw [if_pos rfl]
    · rw [addL_some h2 h]
      have : p.1 ≠ q.1 := fun e => by
        have := h1 p.1 (List.mem_map.2 ⟨p, h, rfl⟩)
        rw [e, lt_irrefl] at this
        cases this
      unfold add1
      rw [if_neg this]
theorem addL_snoc (ch : ByteArray → List Ver) (n : Int) (l : List Pr) (p : Pr) : addL ch n (l ++ [p]) = add1 (addL ch n l) n p := by simp [addL]
/-- The keys that are new. -/
def freshP (s : SP) (l : List Pr) : List ByteArray := (l.filter fun p => (s.ch p.1).isEmpty).map (·.1)
theorem freshP_snoc (s : SP) (l : List Pr) (p : Pr) : freshP s (l ++ [p]) = freshP s l ++ if (s.ch p.1).isEmpty = true then [p.1] else [] := by
  unfold freshP
  rw [List.filter_append, List.map_append]
  congr 1
  by_cases h : (s.ch p.1).isEmpty = true
  · rw [if_pos h, List.filter_cons_of_pos (by simpa using h)]
    rfl
  · rw [if_neg h, List.filter_cons_of_neg (by simpa using h)]
    rfl
theorem freshP_len (s : SP) (l : List Pr) : (freshP s l).length ≤ l.length := by
  unfold freshP
  rw [List.length_map]
  exact List.length_filter_le _ _
theorem mem_fresh {s : SP} {l : List Pr} {k : ByteArray} : k ∈ freshP s l ↔ k ∈ l.map (·.1) ∧ s.ch k = [] := by
  unfold freshP
  constructor
  · intro h
    obtain ⟨p, hp, rfl⟩ := List.mem_map.1 h
    obtain ⟨h1, h2⟩ := List.mem_filter.1 hp
    exact ⟨List.mem_map.2 ⟨p, h1, rfl⟩, by simpa using h2⟩
  · rintro ⟨h1, h2⟩
    obtain ⟨p, hp, rfl⟩ := List.mem_map.1 h1
    exact List.mem_map.2 ⟨p, List.mem_filter.2 ⟨hp, by simp [h2]⟩, rfl⟩
theorem fresh_srt {s : SP} {l : List Pr} (h : Srt (l.map (·.1))) : Srt (freshP s l) :=
  List.Pairwise.sublist (List.Sublist.map _ List.filter_sublist) h
theorem lst_le {L : List Ver} {m : Int} (h : ∀ v ∈ L, v.1 ≤ m) (hm : 0 ≤ m) : lst L ≤ m := by
  unfold lst
  split
  · cases hq : L.getLast? with
    | none => simpa using hm
    | some v => simpa using h v (List.mem_of_getLast? hq)
  · exact hm
theorem Inv.putOk {s : SP} {ks : List ByteArray} (h : Inv s ks) {p : Pr} (hp : (!p.2.2 || p.2.1.toList.isEmpty) = true) : putOk (s.ch p.1) (verOf (s.last + 1) p) = true := by
  unfold Go.Proofs.Ytgaoionnfkbhaaa.putOk
  rw [h.good, Bool.true_and]
  have := lst_le (h.le p.1) (Int.le_trans h.fl h.fle)
  rw [fol_gt (v := verOf (s.last + 1) p) (by show _ < s.last + 1; omega)]
  exact hp
theorem gd_snocP : ∀ {L : List Ver} {last : Int} {v : Ver}, gd last L = true → (∀ u ∈ L, u.1 < v.1) → last < v.1 → (!v.2.2 || v.2.1.toList.isEmpty) = true → gd last (L ++ [v]) = true
  | [], last, v, _, _, h, hv => by
    show (fol v last && gd v.1 []) = true
    rw [fol_gt h, hv]
    rfl
  | u :: L, last, v, hg, hu, h, hv => by
    rw [gd, Bool.and_eq_true] at hg
    show (fol u last && gd u.1 (L ++ [v])) = true
    rw [hg.1, gd_snocP hg.2 (fun x hx => hu x (by simp [hx])) (hu u (by simp)) hv]
    rfl
theorem inst_inv {s : SP} {ks ks' : List ByteArray} (h : Inv s ks) {l : List Pr} (hg : goodP em l = true) (hs : Srt ks') (hm : ∀ k, k ∈ ks' ↔ k ∈ ks ∨ k ∈ freshP s l) : Inv ⟨addL s.ch (s.last + 1) l, s.last + 1, s.floor⟩ ks' := by
  have hsl := goodP_srt hg
  have hcase : ∀ k, (k ∉ l.map (·.1) ∧ addL s.ch (s.last + 1) l k = s.ch k) ∨ ∃ p ∈ l, k = p.1 ∧ addL s.ch (s.last + 1) l k = s.ch k ++ [verOf (s.last + 1) p] := fun k => by
    by_cases hk : k ∈ l.map (·.1)
    · obtain ⟨p, hp, rfl⟩ := List.mem_map.1 hk
      exact .inr ⟨p, hp, rfl, addL_some hsl hp⟩
    · exact .inl ⟨hk, addL_none hk⟩
  refine ⟨hs, fun k => ?_, fun k => ?_, fun k v hv => ?_, h.fl, by have := h.fle; show s.floor ≤ s.last + 1; omega⟩
  · rw [hm k, h.mem k, mem_fresh]
    rcases hcase k with ⟨h1, h2⟩ | ⟨p, hp, rfl, h2⟩
    · simp only [h2]
      constructor
      · rintro (h3 | h3)
        · exact h3
        · exact absurd h3.1 h1
      · exact fun h3 => .inl h3
    · simp only [h2]
      constructor
      · exact fun _ => by simp
      · intro _
        by_cases he : s.ch p.1 = []
        · exact .inr ⟨List.mem_map.2 ⟨p, hp, rfl⟩, he⟩
        · exact .inl he
  · rcases hcase k with ⟨h1, h2⟩ | ⟨p, hp, rfl, h2⟩
    · simp only [h2]
      exact h.good k
    · simp only [h2]
      have hle := h.le p.1
      exact gd_snocP (h.good _) (fun u hu => by have := hle u hu; show u.1 < s.last + 1; omega) (by have := h.fl; have := h.fle; show 0 < s.last + 1; omega) (goodP_at hg p hp).2.2.2
  · have hle := h.le k
    rcases hcase k with ⟨h1, h2⟩ | ⟨p, hp, rfl, h2⟩
    · simp only [h2] at hv
      have := hle v hv
      show v.1 ≤ s.last + 1
      omega
    · simp only [h2] at hv
      rcases List.mem_append.1 hv with hv | hv
      · have := hle v hv
        show v.1 ≤ s.last + 1
        omega
      · simp only [List.mem_singleton] at hv
        subst hv
        exact Int.le_refl _
end Go.Proofs.Ytgaoionnfkbhaaa
