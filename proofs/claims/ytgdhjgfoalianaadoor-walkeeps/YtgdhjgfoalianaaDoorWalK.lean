/-
  What a crash leaves of a log whose frames fill a sector each, and what Open makes of it: plain mathematics.
-/
import Derived.Test.YtgdhjgfoalianaaDoorWalC
namespace Go.Proofs.YtgdhjgfoalianaaDoor
open Pd (DM spl)

/-- Sector j. -/
def sct (b : List UInt8) (j : Nat) : List UInt8 := (b.drop (32 * j)).take 32
theorem sct_get (b : List UInt8) (j : Nat) {i : Nat} (hi : i < 32) : (sct b j)[i]? = b[32 * j + i]? := by
  unfold sct; rw [List.getElem?_take_of_lt hi, List.getElem?_drop]
theorem sct_length {b : List UInt8} {j : Nat} (h : 32 * j + 32 ≤ b.length) : (sct b j).length = 32 := by unfold sct; simp; omega
theorem sct_ext {a b : List UInt8} {j : Nat} (h : ∀ i, i / 32 = j → a[i]? = b[i]?) : sct a j = sct b j := by
  apply List.ext_getElem?
  intro i
  by_cases hi : i < 32
  · rw [sct_get a j hi, sct_get b j hi]
    exact h _ (by omega)
  · rw [List.getElem?_eq_none, List.getElem?_eq_none] <;> (unfold sct; simp; omega)
theorem scts_ext {a b : List UInt8} {n : Nat} (ha : a.length = 32 * n) (hb : b.length = 32 * n) (h : ∀ j, j < n → sct a j = sct b j) : a = b := by
  apply List.ext_getElem?
  intro i
  by_cases hi : i < 32 * n
  · have := h (i / 32) (by omega)
    have e := sct_get a (i / 32) (i := i % 32) (by omega)
    have f := sct_get b (i / 32) (i := i % 32) (by omega)
    rw [this, f, show 32 * (i / 32) + i % 32 = i by omega] at e
    exact e.symm
  · rw [List.getElem?_eq_none (by omega), List.getElem?_eq_none (by omega)]
theorem sct_append_left {a b : List UInt8} {j : Nat} (h : 32 * j + 32 ≤ a.length) : sct (a ++ b) j = sct a j := by
  unfold sct
  rw [List.drop_append_of_le_length (by omega), List.take_append_of_le_length (by simp; omega)]
theorem sct_append_right {a b : List UInt8} {j k : Nat} (h : a.length = 32 * k) (hj : k ≤ j) : sct (a ++ b) j = sct b (j - k) := by
  unfold sct
  rw [List.drop_append, List.drop_of_length_le (by omega), List.nil_append, h]
  congr 2
  omega
theorem nought_eq {l : List UInt8} (h : nought l = true) : l = List.replicate l.length 0 := by
  unfold nought at h
  rw [List.all_eq_true] at h
  exact List.eq_replicate_of_mem (fun x hx => by simpa using h x hx)
theorem sct_nought {r : List UInt8} {j : Nat} (h : nought r = true) (hj : 32 * j + 32 ≤ r.length) : sct r j = Zs := by
  have h1 := nought_eq (nought_take (nought_drop h (32 * j)) 32)
  have h2 : ((r.drop (32 * j)).take 32).length = 32 := by simp; omega
  rw [h2] at h1
  exact h1
theorem nought_zs32 : nought Zs = true := nought_replicate 32

/-- Frames that fill a sector each. -/
def Short (ts : List (List UInt8)) : Prop := ∀ t ∈ ts, t.length ≤ 20
theorem pad_20 {t : List UInt8} (h : t.length ≤ 20) : (pad t).length = 32 := by
  rw [pad_length, framed_length, enc_short (by omega)]
  unfold ru
  simp
  omega
theorem Short.small {ts : List (List UInt8)} (h : Short ts) : ∀ t ∈ ts, t.length ≤ 8192 := fun t ht => by have := h t ht; omega
theorem Short.take {ts : List (List UInt8)} (h : Short ts) (k : Nat) : Short (ts.take k) := fun t ht => h t (List.mem_of_mem_take ht)
theorem pads_20 : ∀ {ts : List (List UInt8)}, Short ts → (pads ts).length = 32 * ts.length
  | [], _ => rfl
  | t :: ts, h => by
    have h1 := pad_20 (h t (by simp))
    have h2 := pads_20 (ts := ts) (fun x hx => h x (by simp [hx]))
    rw [pads_cons, List.length_append, List.length_cons]
    omega
theorem sct_pads : ∀ {ts : List (List UInt8)}, Short ts → ∀ {j : Nat} (hj : j < ts.length), sct (pads ts) j = pad ts[j]
  | t :: ts, h, 0, _ => by
    have h1 := pad_20 (h t (by simp))
    rw [pads_cons, sct_append_left (by omega)]
    unfold sct
    rw [Nat.mul_zero, List.drop_zero, List.take_of_length_le (by omega)]
    rfl
  | t :: ts, h, j + 1, hj => by
    have h1 := pad_20 (h t (by simp))
    rw [pads_cons, sct_append_right (k := 1) (by omega) (by omega)]
    exact sct_pads (ts := ts) (fun x hx => h x (by simp [hx])) (by simpa using hj)

/-- What sector j may be: up to k its frame, k is nought, behind that its frame or nought. -/
def Sk (ts : List (List UInt8)) (k j : Nat) (s : List UInt8) : Prop := (j < k → ts[j]?.map pad = some s) ∧ (j = k → s = Zs) ∧ (k < j → s = Zs ∨ ts[j]?.map pad = some s)
theorem sk_zero {ts : List (List UInt8)} {k j : Nat} (h : k ≤ j) : Sk ts k j Zs := ⟨fun h' => by omega, fun _ => rfl, fun _ => .inl rfl⟩
/-- A disk that has the first k frames, and nothing next. -/
structure Held (n : Nat) (m : DM) (ts : List (List UInt8)) (k : Nat) : Prop where
  ok : Pd.Ok n m
  torn : m.torn = 0
  now : ∀ j, j < n → Sk ts k j (sct m.now j)
  safe : ∀ j, j < n → Sk ts k j (sct m.safe j)
/-- Behind a crash with nothing torn each sector is as it was written last, or as it was synced. -/
theorem sct_crash {n : Nat} {m : DM} (h : Pd.Ok n m) (keep : List Int) (j : Nat) : sct (Pd.crash m keep 0).now j = if (j : Int) ∈ keep then sct m.now j else sct m.safe j := by
  split
  · rename_i hk
    exact sct_ext (fun i hi => Pd.crash_kept h 0 (by rw [hi]; exact hk))
  · rename_i hk
    refine sct_ext (fun i hi => ?_)
    rw [Pd.crash_cut h 0 (by rw [hi]; exact hk), if_neg]
    rintro ⟨_, h2⟩
    simp [Pd.clip] at h2
theorem crash_safe (m : DM) (keep : List Int) (t : Int) : (Pd.crash m keep t).safe = (Pd.crash m keep t).now := rfl
section
variable {n : Nat} {m : DM} {ts : List (List UInt8)} {k : Nat}
theorem Held.crash (h : Held n m ts k) (keep : List Int) : Held n (Pd.crash m keep 0) ts k := by
  have h1 : ∀ j, j < n → Sk ts k j (sct (Pd.crash m keep 0).now j) := fun j hj => by
    rw [sct_crash h.ok]
    split
    · exact h.now j hj
    · exact h.safe j hj
  exact ⟨h.ok.crash keep 0, h.torn, h1, h1⟩
theorem Held.strike (h : Held n m ts k) : Held n (Pd.strike m).2 ts k := by
  unfold Pd.strike
  split
  · exact h
  · split
    · rw [h.torn]; exact h.crash _
    · exact ⟨⟨h.ok.now, h.ok.safe, h.ok.nodup, h.ok.low, h.ok.alike⟩, h.torn, h.now, h.safe⟩
theorem Held.arm (h : Held n m ts k) (a : Int) (keep : List Int) : Held n (Pd.arm m a keep 0) ts k := ⟨h.ok.arm a keep 0, rfl, h.now, h.safe⟩
theorem sct_spl {b x : List UInt8} {s j : Nat} (hx : x.length = 32) (hs : 32 * s + 32 ≤ b.length) : sct (spl b (32 * s) x) j = if j = s then x else sct b j := by
  split
  · rename_i e
    subst e
    apply List.ext_getElem?
    intro i
    by_cases hi : i < 32
    · rw [sct_get _ _ hi, Pd.spl_get (by omega), if_pos (by omega)]
      congr 1
      omega
    · rw [List.getElem?_eq_none, List.getElem?_eq_none]
      · omega
      · unfold sct; simp; omega
  · rename_i e
    refine sct_ext (fun i hi => ?_)
    rw [Pd.spl_get (by omega), if_neg (by omega)]
theorem Held.write0 (h : Held n m ts k) {s : Nat} (hs : s < n) (hk : k ≤ s) : Held n (Pd.write m ((32 * s : Nat) : Int) Zs).2 ts k := by
  have hz : Zs.length = 32 := by simp [Zs]
  have hok := h.ok.write ((32 * s : Nat) : Int) Zs
  have hnl := h.ok.now
  unfold Pd.write at hok ⊢
  cases ho : m.off with
  | true => simpa [ho] using h
  | false =>
    rw [ho] at hok
    simp only [Bool.false_eq_true, if_false] at hok ⊢
    rw [if_neg (by omega), if_neg (by omega), if_neg (by simp [Zs])] at hok ⊢
    have hst := h.strike
    generalize Pd.strike m = z at hok hst ⊢
    obtain ⟨b, e⟩ := z
    cases b with
    | true => exact hst
    | false =>
      refine ⟨hok, hst.torn, fun j hj => ?_, hst.safe⟩
      show Sk ts k j (sct (spl e.now _ Zs) j)
      rw [show ((32 * s : Nat) : Int).toNat = 32 * s by omega, sct_spl hz (by have := hst.ok.now; simp only at this; omega)]
      split
      · rename_i e1
        subst e1
        exact sk_zero hk
      · exact hst.now j hj
theorem Held.sync (h : Held n m ts k) : Held n (Pd.sync m).2 ts k := by
  have hok := h.ok.sync
  unfold Pd.sync at hok ⊢
  cases ho : m.off with
  | true => simpa [ho] using h
  | false =>
    rw [ho] at hok
    simp only [Bool.false_eq_true, if_false] at hok ⊢
    by_cases hd : m.dirty = []
    · rw [if_pos hd]; exact h
    · rw [if_neg hd] at hok ⊢
      have hst := h.strike
      generalize Pd.strike m = z at hok hst ⊢
      obtain ⟨b, e⟩ := z
      cases b with
      | true => exact hst
      | false => exact ⟨hok, hst.torn, hst.now, hst.now⟩
theorem Held.wipe (b : List UInt8) : ∀ (q s : Nat) (f : Bool) (m : DM), Held n m ts k → k ≤ s → s + q ≤ n → Held n (wipeF b q (32 * s) f m).2 ts k
  | 0, s, f, m, h, _, _ => by
    rw [wipeF]
    split
    · exact h.sync
    · exact h
  | q + 1, s, f, m, h, hk, hq => by
    rw [wipeF]
    split
    · exact Held.wipe b q (s + 1) f m h (by omega) (by omega)
    · have h1 := h.write0 (s := s) (by omega) hk
      split
      · exact Held.wipe b q (s + 1) true _ h1 (by omega) (by omega)
      · exact h1
end
/-- No loss is in store without power. -/
def Dim (m : DM) : Prop := m.off = true → m.armed = 0
theorem dim_strike {m : DM} (h : Dim m) : Dim (Pd.strike m).2 := by
  unfold Pd.strike
  split
  · exact h
  · split
    · exact fun _ => rfl
    · exact fun ho => by have := h ho; simp_all
theorem dim_write {m : DM} (h : Dim m) (p : Int) (b : List UInt8) : Dim (Pd.write m p b).2 := by
  unfold Pd.write
  split
  · exact h
  split
  · exact h
  split
  · exact h
  split
  · exact h
  have := dim_strike h
  generalize Pd.strike m = z at this ⊢
  obtain ⟨b', e⟩ := z
  cases b' with
  | true => exact this
  | false => exact this
theorem dim_sync {m : DM} (h : Dim m) : Dim (Pd.sync m).2 := by
  unfold Pd.sync
  split
  · exact h
  split
  · exact h
  have := dim_strike h
  generalize Pd.strike m = z at this ⊢
  obtain ⟨b', e⟩ := z
  cases b' with
  | true => exact this
  | false => exact this
theorem dim_wipe (b : List UInt8) : ∀ (q p : Nat) (f : Bool) (m : DM), Dim m → Dim (wipeF b q p f m).2
  | 0, p, f, m, h => by
    rw [wipeF]
    split
    · exact dim_sync h
    · exact h
  | q + 1, p, f, m, h => by
    rw [wipeF]
    split
    · exact dim_wipe b q _ f m h
    · have h1 := dim_write h (p : Int) Zs
      split
      · exact dim_wipe b q _ true _ h1
      · exact h1
theorem dim_open {m : DM} (h : Dim m) : Dim (openD m).2 := by
  unfold openD
  split
  · exact h
  · exact dim_wipe _ _ _ _ _ h

section
variable {n : Nat} {m : DM} {ts : List (List UInt8)} {k : Nat}
theorem Held.split (h : Held n m ts k) (hs : Short ts) (hk : k ≤ ts.length) (hkn : k ≤ n) : m.now = pads (ts.take k) ++ m.now.drop (32 * k) ∧ nought ((m.now.drop (32 * k)).take 32) = true := by
  have hl := h.ok.now
  have hp := pads_20 (hs.take k)
  have htk : (ts.take k).length = k := by simp; omega
  rw [htk] at hp
  have e : m.now.take (32 * k) = pads (ts.take k) := by
    refine scts_ext (n := k) (by simp; omega) hp (fun j hj => ?_)
    have h1 := (h.now j (by omega)).1 hj
    rw [List.getElem?_eq_getElem (by omega)] at h1
    rw [sct_pads (hs.take k) (by omega), List.getElem_take]
    simp at h1
    rw [h1]
    refine sct_ext (fun i hi => ?_)
    rw [List.getElem?_take_of_lt (by omega)]
  refine ⟨by rw [← e, List.take_append_drop], ?_⟩
  by_cases hkn' : k < n
  · have := (h.now k hkn').2.1 rfl
    unfold sct at this
    rw [this]
    exact nought_zs32
  · rw [List.drop_of_length_le (by omega)]
    rfl
theorem Held.scan (h : Held n m ts k) (hs : Short ts) (hk : k ≤ ts.length) (hkn : k ≤ n) : texts m.now = ts.take k ∧ ends m.now = 32 * k := by
  obtain ⟨h1, h2⟩ := h.split hs hk hkn
  obtain ⟨h3, h4⟩ := scan_pads (ts.take k) _ h2 (hs.take k).small
  rw [← h1] at h3 h4
  refine ⟨h3, ?_⟩
  rw [h4, pads_20 (hs.take k)]
  simp
  omega
theorem Held.opened (h : Held n m ts k) (hs : Short ts) (hk : k ≤ ts.length) (hkn : k ≤ n) : Held n (openD m).2 ts k := by
  obtain ⟨_, h2⟩ := h.scan hs hk hkn
  have hl := h.ok.now
  unfold openD
  split
  · exact h
  · rw [h2]
    exact Held.wipe _ _ k false m h (Nat.le_refl _) (by omega)
theorem wipe_calm (b : List UInt8) (n : Nat) : ∀ (q s : Nat) (f : Bool) (m : DM), m.off = false → m.armed = 0 → m.now.length = 32 * n → m.now.drop (32 * s) = b.drop (32 * s) → s + q = n →
    ∃ m', wipeF b q (32 * s) f m = (0, m') ∧ m'.off = false ∧ m'.armed = 0 ∧ m'.now = m.now.take (32 * s) ++ List.replicate (32 * q) 0
  | 0, s, f, m, ho, ha, hl, _, hq => by
    have e : m.now.take (32 * s) ++ List.replicate (32 * 0) 0 = m.now := by rw [Nat.mul_zero, List.replicate_zero, List.append_nil]; exact List.take_of_length_le (by omega)
    rw [e, wipeF]
    split
    · unfold Pd.sync Pd.strike
      rw [ho, if_neg (by simp)]
      split
      · exact ⟨m, rfl, ho, ha, rfl⟩
      · exact ⟨_, rfl, ho, ha, rfl⟩
    · exact ⟨m, rfl, ho, ha, rfl⟩
  | q + 1, s, f, m, ho, ha, hl, hd, hq => by
    have hz : Zs.length = 32 := by simp [Zs]
    rw [wipeF]
    split
    · rename_i hn
      rw [← hd] at hn
      have h1 := nought_eq hn
      have h2 : ((m.now.drop (32 * s)).take 32).length = 32 := by simp; omega
      rw [h2] at h1
      obtain ⟨m', e1, e2, e3, e4⟩ := wipe_calm b n q (s + 1) f m ho ha hl (by rw [show 32 * (s + 1) = 32 * s + 32 by omega, ← List.drop_drop, ← List.drop_drop, hd]) (by omega)
      refine ⟨m', e1, e2, e3, ?_⟩
      rw [e4, show 32 * (s + 1) = 32 * s + 32 by omega, List.take_add, h1, List.append_assoc, List.replicate_append_replicate]
      congr 2
      omega
    · have e : Pd.write m ((32 * s : Nat) : Int) Zs = (0, { m with now := spl m.now (32 * s) Zs, dirty := Pd.touch m.dirty (32 * s) Zs.length }) := by
        unfold Pd.write Pd.strike
        rw [ho, if_neg (by simp), if_neg (by omega), if_neg (by omega), if_neg (by simp [Zs]), if_pos ha]
        simp only [show ((32 * s : Nat) : Int).toNat = 32 * s by omega]
        simp [ho]
      rw [e, if_pos rfl]
      have ht : (spl m.now (32 * s) Zs).take (32 * s + 32) = m.now.take (32 * s) ++ Zs := by
        unfold spl
        rw [List.take_append_of_le_length (by simp; omega), List.take_of_length_le (by simp; omega)]
      have hdr : (spl m.now (32 * s) Zs).drop (32 * s + 32) = m.now.drop (32 * s + 32) := by
        unfold spl
        rw [List.drop_append, List.drop_of_length_le (by simp; omega), List.nil_append]
        have : 32 * s + 32 - (m.now.take (32 * s) ++ Zs).length = 0 := by simp; omega
        rw [this, List.drop_zero, hz]
      obtain ⟨m', e1, e2, e3, e4⟩ := wipe_calm b n q (s + 1) true { m with now := spl m.now (32 * s) Zs, dirty := Pd.touch m.dirty (32 * s) Zs.length } ho ha (by show (spl m.now (32 * s) Zs).length = _; rw [Pd.spl_length (by omega), hl])
        (by show (spl m.now (32 * s) Zs).drop (32 * (s + 1)) = _; rw [show 32 * (s + 1) = 32 * s + 32 by omega, hdr, ← List.drop_drop, ← List.drop_drop, hd]) (by omega)
      refine ⟨m', e1, e2, e3, ?_⟩
      rw [e4]
      show (spl m.now (32 * s) Zs).take (32 * (s + 1)) ++ _ = _
      rw [show 32 * (s + 1) = 32 * s + 32 by omega, ht, List.append_assoc]
      congr 1
/-- With power, and nothing in store, Open wipes all that is behind. -/
theorem Held.final (h : Held n m ts k) (hs : Short ts) (hk : k ≤ ts.length) (hkn : k ≤ n) (ho : m.off = false) (ha : m.armed = 0) : (openD m).1 = 0 ∧ Calm n (openD m).2 (ts.take k) := by
  obtain ⟨_, h2⟩ := h.scan hs hk hkn
  obtain ⟨h3, _⟩ := h.split hs hk hkn
  have hl := h.ok.now
  have hp := pads_20 (hs.take k)
  have htk : (ts.take k).length = k := by simp; omega
  rw [htk] at hp
  obtain ⟨m', e1, e2, e3, e4⟩ := wipe_calm m.now n ((m.now.length - 32 * k) / 32) k false m ho ha hl rfl (by omega)
  have e : openD m = (0, m') := by
    unfold openD
    rw [ho, if_neg (by simp), h2, e1]
  rw [e]
  have h5 : m.now.take (32 * k) = pads (ts.take k) := by rw [h3]; exact List.take_left' hp
  refine ⟨rfl, e2, e3, ⟨_, by rw [e4, h5], nought_replicate _⟩, ?_, (hs.take k).small⟩
  rw [e4]
  simp
  omega
end

/-- The first number that is not as it should be. -/
theorem first_not (P : Nat → Prop) : ∀ N : Nat, ∃ k, k ≤ N ∧ (∀ j, j < k → P j) ∧ (k < N → ¬ P k)
  | 0 => ⟨0, Nat.le_refl _, fun j hj => by omega, fun h => by omega⟩
  | N + 1 => by
    obtain ⟨k, h1, h2, h3⟩ := first_not P N
    by_cases hk : k < N
    · exact ⟨k, by omega, h2, fun _ => h3 hk⟩
    · obtain rfl : k = N := by omega
      by_cases hp : P k
      · exact ⟨k + 1, Nat.le_refl _, fun j hj => by
          by_cases hj' : j < k
          · exact h2 j hj'
          · obtain rfl : j = k := by omega
            exact hp, fun h => by omega⟩
      · exact ⟨k, by omega, h2, fun _ => hp⟩

/-- A log of frames that fill a sector each; Y of them are synced. -/
structure Live (n : Nat) (m : DM) (ts : List (List UInt8)) (Y : Nat) : Prop where
  calm : Calm n m ts
  ok : Pd.Ok n m
  torn : m.torn = 0
  safe : ∃ r, m.safe = pads (ts.take Y) ++ r ∧ nought r = true
  le : Y ≤ ts.length
  short : Short ts
theorem live_new (n : Nat) : Live n (Pd.new n) [] 0 := ⟨calm_new n, Pd.ok_new n, rfl, ⟨_, rfl, nought_replicate _⟩, Nat.le_refl _, fun t ht => by simp at ht⟩
section
variable {n Y : Nat} {m : DM} {ts : List (List UInt8)}
theorem sct_log {b r : List UInt8} {us : List (List UInt8)} (hu : Short us) (hb : b = pads us ++ r) (hr : nought r = true) (hl : b.length = 32 * n) {j : Nat} (hj : j < n) : sct b j = if h : j < us.length then pad us[j] else Zs := by
  have hp := pads_20 hu
  rw [hb, List.length_append, hp] at hl
  split
  · rename_i h
    rw [hb, sct_append_left (by omega)]
    exact sct_pads hu h
  · rename_i h
    rw [hb, sct_append_right hp (by omega)]
    exact sct_nought hr (by omega)
theorem Live.crash (h : Live n m ts Y) (keep : List Int) : ∃ k, Y ≤ k ∧ k ≤ ts.length ∧ k ≤ n ∧ Held n (Pd.crash m keep 0) ts k := by
  obtain ⟨r, hr, hr0⟩ := h.calm.rest
  obtain ⟨r2, hr2, hr20⟩ := h.safe
  have hc := h.calm.count
  have hle := h.le
  have htk : (ts.take Y).length = Y := by simp; omega
  obtain ⟨k, h1, h2, h3⟩ := first_not (fun j => (j : Int) ∈ keep ∨ j < Y) ts.length
  have hY : Y ≤ k := by
    by_cases hyk : Y ≤ k
    · exact hyk
    · exact absurd (.inr (by omega)) (h3 (by omega))
  have hsec : ∀ j, j < n → Sk ts k j (sct (Pd.crash m keep 0).now j) := fun j hj => by
    have hnow := sct_log h.short hr hr0 h.ok.now hj
    have hsafe := sct_log (h.short.take Y) hr2 hr20 h.ok.safe hj
    have hsf : sct m.safe j = if hh : j < Y then pad (ts[j]'(by omega)) else Zs := by
      rw [hsafe]
      split
      · rename_i hh
        rw [dif_pos (by omega), List.getElem_take]
      · rename_i hh
        rw [dif_neg (by omega)]
    rw [sct_crash h.ok, hsf, hnow]
    refine ⟨fun hjk => ?_, fun hjk => ?_, fun hjk => ?_⟩
    · rw [List.getElem?_eq_getElem (by omega), Option.map_some, dif_pos (by omega)]
      split
      · rfl
      · rename_i hnk
        rw [dif_pos ((h2 j hjk).resolve_left hnk)]
    · subst hjk
      by_cases hkt : j < ts.length
      · have := h3 hkt
        rw [if_neg (fun e => this (.inl e)), dif_neg (by omega)]
      · rw [dif_neg hkt, dif_neg (by omega)]
        simp
    · split
      · split
        · rename_i hjt
          right
          rw [List.getElem?_eq_getElem hjt]
          rfl
        · exact .inl rfl
      · rw [dif_neg (by omega)]
        exact .inl rfl
  exact ⟨k, hY, h1, by omega, h.ok.crash keep 0, h.torn, hsec, hsec⟩
theorem Live.append (h : Live n m ts Y) (t : List UInt8) (ht : t.length ≤ 20) (hn : ts.length < n) : (appD m (pads ts).length t).1 = 0 ∧ Live n (appD m (pads ts).length t).2 (ts ++ [t]) Y := by
  have hp := pads_20 h.short
  have h20 := pad_20 ht
  obtain ⟨e1, e2⟩ := h.calm.append t (by omega) (by omega)
  refine ⟨e1, e2, ?_, ?_, ?_, by have := h.le; simp; omega, fun x hx => ?_⟩
  · unfold appD
    rw [if_neg (by omega)]
    exact h.ok.write _ _
  · unfold appD Pd.write Pd.strike
    rw [if_neg (by omega), h.calm.off, if_neg (by simp)]
    split
    · exact h.torn
    split
    · exact h.torn
    split
    · exact h.torn
    rw [if_pos h.calm.armed]
    exact h.torn
  · have e : (appD m (pads ts).length t).2.safe = m.safe := by
      unfold appD Pd.write Pd.strike
      rw [if_neg (by omega), h.calm.off, if_neg (by simp)]
      split
      · rfl
      split
      · rfl
      split
      · rfl
      rw [if_pos h.calm.armed]
    rw [e, List.take_append_of_le_length h.le]
    exact h.safe
  · rcases List.mem_append.1 hx with hx | hx
    · exact h.short x hx
    · simp at hx; rw [hx]; exact ht
theorem Live.sync (h : Live n m ts Y) : (Pd.sync m).1 = 0 ∧ Live n (Pd.sync m).2 ts ts.length := by
  obtain ⟨e1, e2⟩ := h.calm.sync
  obtain ⟨r, hr, hr0⟩ := h.calm.rest
  have hs : (Pd.sync m).2.safe = m.now := by
    unfold Pd.sync Pd.strike
    rw [h.calm.off, if_neg (by simp)]
    split
    · rename_i hd
      apply List.ext_getElem?
      intro i
      exact (h.ok.alike i (by rw [hd]; simp)).symm
    · rw [if_pos h.calm.armed]
  refine ⟨e1, e2, h.ok.sync, ?_, ⟨r, by rw [hs, hr, List.take_of_length_le (Nat.le_refl _)], hr0⟩, Nat.le_refl _, h.short⟩
  unfold Pd.sync Pd.strike
  rw [h.calm.off, if_neg (by simp)]
  split
  · exact h.torn
  · rw [if_pos h.calm.armed]
    exact h.torn
end
#print axioms Live.crash
end Go.Proofs.YtgdhjgfoalianaaDoor
