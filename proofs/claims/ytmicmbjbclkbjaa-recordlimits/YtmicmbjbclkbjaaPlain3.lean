/-
  Plain mathematics: what was put is got again; what was got is written as it was.
-/
import Derived.Test.YtmicmbjbclkbjaaPlain2
namespace Go.Proofs.Ytmicmbjbclkbjaa

theorem gn_enc (n : Nat) (r : List UInt8) (hn : n < 256 ^ 8) : gn (enc n ++ r) = (n, (enc n).length, true) := by
  rcases Nat.lt_or_ge n 248 with h | h
  · rw [enc_short h]
    have e : (UInt8.ofNat n).toNat = n := by simp; omega
    simp only [List.cons_append, List.nil_append, gn, e]
    rw [if_pos h]
    rfl
  · have hk := dg_length_le 8 n
    have hne := dg_ne_nil 8 n hn (by omega)
    have hk1 : 1 ≤ (dg 8 n).length := by
      rcases hd : dg 8 n with _ | ⟨y, t⟩
      · exact absurd hd hne
      · simp
    have ex : (UInt8.ofNat (247 + (dg 8 n).length)).toNat = 247 + (dg 8 n).length := by simp; omega
    rw [enc_long h, List.cons_append]
    rw [gn_long (d := dg 8 n) (k := (dg 8 n).length) (n := n) ex hk1 (by simp) (by simp) (val_dg 8 n hn)]
    rw [if_pos (enc_long h)]
    rfl

theorem gs_enc (t r : List UInt8) (m : Nat) (ht : t.length ≤ m) (h8 : t.length < 256 ^ 8) : gs (encS t ++ r) m = (t, (encS t).length, true) := by
  have hg : gn (encS t ++ r) = (t.length, (enc t.length).length, true) := by
    unfold encS
    rw [List.append_assoc]
    exact gn_enc _ _ h8
  rw [gs_yes hg ht (by simp [encS]; omega)]
  unfold encS
  simp [List.append_assoc]

theorem gl_enc (pre r : List UInt8) (ts : List (List UInt8)) (m : Nat) (hm : ∀ t ∈ ts, t.length ≤ m ∧ t.length < 256 ^ 8) : ∀ i, i ≤ ts.length → gl (pre ++ encT ts ++ r) m pre.length i = some (ts.take i, pre.length + (encT (ts.take i)).length)
  | 0, _ => by simp [gl, encT]
  | i + 1, hi => by
    have ih := gl_enc pre r ts m hm i (by omega)
    have hlt : i < ts.length := by omega
    have hd : (pre ++ encT ts ++ r).drop (pre.length + (encT (ts.take i)).length) = encS ts[i] ++ (encT (ts.drop (i + 1)) ++ r) := by
      have e : encT ts = encT (ts.take i) ++ (encS ts[i] ++ encT (ts.drop (i + 1))) := by
        conv => lhs; rw [← List.take_append_drop i ts, encT_append, List.drop_eq_getElem_cons hlt]
        rfl
      rw [e]
      simp only [List.append_assoc]
      rw [← List.append_assoc pre, show pre.length + (encT (ts.take i)).length = (pre ++ encT (ts.take i)).length from by simp, List.drop_left]
    have hmem := hm ts[i] (List.getElem_mem hlt)
    have hg : gs ((pre ++ encT ts ++ r).drop (pre.length + (encT (ts.take i)).length)) m = (ts[i], (encS ts[i]).length, true) := by
      rw [hd]
      exact gs_enc _ _ m hmem.1 hmem.2
    rw [gl_yes ih hg, List.take_succ_eq_append_getElem hlt, encT_append]
    simp [encT]
    omega

theorem gL_enc (ts : List (List UInt8)) (r : List UInt8) (c m : Nat) (hc : ts.length ≤ c) (h8 : ts.length < 256 ^ 8) (hm : ∀ t ∈ ts, t.length ≤ m ∧ t.length < 256 ^ 8) : gL (encL ts ++ r) c m = (ts, (encL ts).length, true) := by
  have hg : gn (encL ts ++ r) = (ts.length, (enc ts.length).length, true) := by
    unfold encL
    rw [List.append_assoc]
    exact gn_enc _ _ h8
  have hgl := gl_enc (enc ts.length) r ts m hm ts.length (Nat.le_refl _)
  rw [List.take_length] at hgl
  rw [gL_yes hg hc hgl]
  simp [encL]

theorem gL_spec {l : List UInt8} {c m x : Nat} {ts : List (List UInt8)} (h : gL l c m = (ts, x, true)) : l.take x = encL ts ∧ x ≤ l.length ∧ ts.length ≤ c ∧ ts.length < 256 ^ 8 ∧ ∀ t ∈ ts, t.length ≤ m := by
  unfold gL at h
  rcases gn_cases l with hg | ⟨n, k, hg⟩
  · rw [hg] at h
    simp at h
  · obtain ⟨hk1, hk9, hkl, hn8, he⟩ := gn_ok hg
    rw [hg] at h
    simp only [true_and] at h
    split at h
    · cases hgl : gl l m k n with
      | none => rw [hgl] at h; simp at h
      | some q =>
        obtain ⟨us, y⟩ := q
        rw [hgl] at h
        simp at h
        obtain ⟨rfl, rfl⟩ := h
        obtain ⟨h1, h2, h3, h4, h5, h6⟩ := gl_ok hkl hk1 hgl
        refine ⟨?_, h1, by omega, by omega, h6⟩
        unfold encL
        rw [h5, h3, he]
    · simp at h

/-- Bytes that a list's are cut off of are none. -/
theorem gL_short (ts : List (List UInt8)) (c m : Nat) (hc : ts.length ≤ c) (h8 : ts.length < 256 ^ 8) (hm : ∀ t ∈ ts, t.length ≤ m ∧ t.length < 256 ^ 8) (hm8 : m < 256 ^ 8) (p : Nat) (hp : p < (encL ts).length) : (gL ((encL ts).take p) c m).2.2 = false := by
  rcases hg : gL ((encL ts).take p) c m with ⟨us, x, ok⟩
  cases ok with
  | false => rfl
  | true =>
    exfalso
    obtain ⟨h1, h2, h3, h4, h5⟩ := gL_spec hg
    simp only [List.length_take] at h2
    have e1 : (encL ts).take x = encL us := by
      rw [List.take_take] at h1
      rwa [Nat.min_eq_left (by omega)] at h1
    have e2 : encL ts = encL us ++ (encL ts).drop x := by rw [← e1, List.take_append_drop]
    have g1 := gL_enc ts [] c m hc h8 hm
    have g2 := gL_enc us ((encL ts).drop x) c m h3 h4 (fun t ht => ⟨h5 t ht, by have := h5 t ht; omega⟩)
    rw [List.append_nil, e2, g2] at g1
    simp only [Prod.mk.injEq, and_true] at g1
    have hl := congrArg List.length e1
    simp only [List.length_take] at hl
    have h6 := g1.2
    rw [← e2] at h6
    omega

/-- Two lists have the same bytes just if they are the same. -/
theorem encL_inj {ts us : List (List UInt8)} (h8 : ts.length < 256 ^ 8) (h8' : us.length < 256 ^ 8) (hm : ∀ t ∈ ts, t.length < 256 ^ 8) (hm' : ∀ t ∈ us, t.length < 256 ^ 8) (h : encL ts = encL us) : ts = us := by
  have g1 := gL_enc ts [] (256 ^ 8) (256 ^ 8) (by omega) h8 (fun t ht => ⟨by have := hm t ht; omega, hm t ht⟩)
  have g2 := gL_enc us [] (256 ^ 8) (256 ^ 8) (by omega) h8' (fun t ht => ⟨by have := hm' t ht; omega, hm' t ht⟩)
  rw [h, g2] at g1
  simp only [Prod.mk.injEq, and_true] at g1
  exact g1.symm

theorem enc_inj {n m : Nat} (hn : n < 256 ^ 8) (hm : m < 256 ^ 8) (h : enc n = enc m) : n = m := by
  have g1 := gn_enc n [] hn
  have g2 := gn_enc m [] hm
  rw [h, g2] at g1
  simp only [Prod.mk.injEq, and_true] at g1
  exact g1.symm
end Go.Proofs.Ytmicmbjbclkbjaa
