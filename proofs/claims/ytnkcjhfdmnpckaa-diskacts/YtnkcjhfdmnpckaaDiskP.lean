/-
  A disk, plain: what is written, synced, dirty, and what a loss of power leaves. No program is spoken of.
-/
namespace Go.Proofs.Ytnkcjhfdmnpckaa.Pd

/-- The bytes b laid over l from place p on. -/
def spl (l : List UInt8) (p : Nat) (b : List UInt8) : List UInt8 := l.take p ++ b ++ l.drop (p + b.length)
theorem spl_length {l b : List UInt8} {p : Nat} (h : p + b.length ≤ l.length) : (spl l p b).length = l.length := by simp [spl]; omega
theorem spl_nil (l : List UInt8) (p : Nat) : spl l p [] = l := by simp [spl]
theorem spl_get {l b : List UInt8} {p : Nat} (h : p + b.length ≤ l.length) (i : Nat) : (spl l p b)[i]? = if p ≤ i ∧ i < p + b.length then b[i - p]? else l[i]? := by
  unfold spl
  have hp : (l.take p).length = p := by simp; omega
  by_cases h1 : i < p
  · rw [if_neg (by omega), List.append_assoc, List.getElem?_append_left (by omega), List.getElem?_take_of_lt h1]
  · by_cases h2 : i < p + b.length
    · rw [if_pos ⟨by omega, h2⟩, List.append_assoc, List.getElem?_append_right (by omega), hp, List.getElem?_append_left (by omega)]
    · rw [if_neg (by omega), List.getElem?_append_right (by rw [List.length_append, hp]; omega), List.length_append, hp, List.getElem?_drop]
      congr 1
      omega
/-- One byte more. -/
theorem spl_snoc {l b : List UInt8} {p : Nat} (x : UInt8) (h : p + b.length + 1 ≤ l.length) : (spl l p b).set (p + b.length) x = spl l p (b ++ [x]) := by
  have k1 : p + b.length ≤ l.length := by omega
  have k2 : p + (b ++ [x]).length ≤ l.length := by simp; omega
  apply List.ext_getElem?
  intro i
  rw [List.getElem?_set, spl_get k1, spl_get k2, spl_length k1]
  by_cases hi : p + b.length = i
  · subst hi
    rw [if_pos rfl, if_pos (by omega), if_pos (by simp)]
    simp
  · rw [if_neg hi]
    by_cases h1 : p ≤ i ∧ i < p + b.length
    · rw [if_pos h1, if_pos (by simp; omega), List.getElem?_append_left (by omega)]
    · rw [if_neg h1, if_neg (by simp; omega)]

/-- One sector more that is dirty. -/
def adds (d : List Nat) (s : Nat) : List Nat := if s ∈ d then d else d ++ [s]
theorem mem_adds {d : List Nat} {s t : Nat} : t ∈ adds d s ↔ t ∈ d ∨ t = s := by
  unfold adds
  by_cases h : s ∈ d
  · rw [if_pos h]
    exact ⟨.inl, fun e => e.elim id (fun e => e ▸ h)⟩
  · rw [if_neg h]; simp
theorem adds_nodup {d : List Nat} {s : Nat} (h : d.Nodup) : (adds d s).Nodup := by
  unfold adds
  by_cases hs : s ∈ d
  · rw [if_pos hs]; exact h
  · rw [if_neg hs, List.nodup_append]
    exact ⟨h, by simp, fun a ha b hb => by simp at hb; subst hb; exact fun e => hs (e ▸ ha)⟩
/-- The sectors that n bytes from place p on touch, byte by byte. -/
def touch (d : List Nat) (p : Nat) : Nat → List Nat
  | 0 => d
  | n + 1 => adds (touch d p n) ((p + n) / 32)
theorem mem_touch {d : List Nat} {p : Nat} : ∀ {n s : Nat}, s ∈ touch d p n ↔ s ∈ d ∨ ∃ i, i < n ∧ s = (p + i) / 32
  | 0, s => by simp [touch]
  | n + 1, s => by
    rw [touch, mem_adds, mem_touch]
    constructor
    · rintro ((h | ⟨i, h1, h2⟩) | h)
      · exact .inl h
      · exact .inr ⟨i, by omega, h2⟩
      · exact .inr ⟨n, by omega, h⟩
    · rintro (h | ⟨i, h1, h2⟩)
      · exact .inl (.inl h)
      · by_cases hi : i = n
        · exact .inr (hi ▸ h2)
        · exact .inl (.inr ⟨i, by omega, h2⟩)
theorem touch_nodup {d : List Nat} {p : Nat} (h : d.Nodup) : ∀ n, (touch d p n).Nodup
  | 0 => h
  | n + 1 => adds_nodup (touch_nodup h n)
/-- .. sector by sector: k sectors from s on. -/
def touchS (d : List Nat) (s : Nat) : Nat → List Nat
  | 0 => d
  | k + 1 => adds (touchS d s k) (s + k)
theorem mem_touchS {d : List Nat} {s : Nat} : ∀ {k t : Nat}, t ∈ touchS d s k ↔ t ∈ d ∨ (s ≤ t ∧ t < s + k)
  | 0, t => ⟨.inl, fun h => h.elim id (fun h => by omega)⟩
  | k + 1, t => by
    rw [touchS, mem_adds, mem_touchS]
    constructor
    · rintro ((h | h) | h)
      · exact .inl h
      · exact .inr ⟨by omega, by omega⟩
      · exact .inr ⟨by omega, by omega⟩
    · rintro (h | h)
      · exact .inl (.inl h)
      · by_cases e : t = s + k
        · exact .inr e
        · exact .inl (.inr ⟨by omega, by omega⟩)
/-- Bytes or sectors: the same, in the same order. -/
theorem touch_eq {d : List Nat} {p : Nat} : ∀ n, touch d p (n + 1) = touchS d (p / 32) ((p + n) / 32 - p / 32 + 1)
  | 0 => by simp [touch, touchS]
  | n + 1 => by
    rw [touch, touch_eq n]
    have hle : p / 32 ≤ (p + n) / 32 := Nat.div_le_div_right (by omega)
    by_cases h : (p + (n + 1)) / 32 = (p + n) / 32
    · rw [h]
      unfold adds
      rw [if_pos]
      exact mem_touchS.2 (.inr ⟨hle, by omega⟩)
    · have h1 : (p + (n + 1)) / 32 = (p + n) / 32 + 1 := by omega
      rw [h1, show (p + n) / 32 + 1 - p / 32 + 1 = ((p + n) / 32 - p / 32 + 1) + 1 by omega]
      conv => rhs; rw [touchS]
      congr 1
      omega

/-- A disk. -/
structure DM where
  now : List UInt8
  safe : List UInt8
  dirty : List Nat
  off : Bool
  armed : Nat
  keep : List Int
  torn : Int

def new (s : Nat) : DM := ⟨List.replicate (32 * s) 0, List.replicate (32 * s) 0, [], false, 0, [], 0⟩
/-- How much of a sector is torn. -/
def clip (t : Int) : Nat := if t < 0 then 0 else if 32 < t then 32 else t.toNat
theorem clip_le (t : Int) : clip t ≤ 32 := by unfold clip; split; omega; split <;> omega
/-- The first n bytes of sector s as they were written last. -/
def lay (now safe : List UInt8) (s n : Nat) : List UInt8 := spl safe (32 * s) ((now.drop (32 * s)).take n)
/-- What a loss of power leaves, sector by sector. -/
def left (now : List UInt8) (keep : List Int) (t : Nat) : List Nat → Bool → List UInt8 → List UInt8
  | [], _, safe => safe
  | s :: r, first, safe => if (s : Int) ∈ keep then left now keep t r first (lay now safe s 32) else left now keep t r false (lay now safe s (if first then t else 0))
/-- What a loss of power leaves, byte by byte. -/
def stays (keep : List Int) (t : Nat) (s j : Nat) : List Nat → Bool → Bool
  | [], _ => false
  | x :: r, first => if (x : Int) ∈ keep then (if x = s then true else stays keep t s j r first) else (if x = s then first && decide (j < t) else stays keep t s j r false)
theorem lay_length {now safe : List UInt8} {s n : Nat} (_ : now.length = safe.length) (hs : 32 * s + 32 ≤ safe.length) (hn : n ≤ 32) : (lay now safe s n).length = safe.length := by
  apply spl_length
  simp
  omega
theorem lay_get {now safe : List UInt8} {s n : Nat} (hl : now.length = safe.length) (hs : 32 * s + 32 ≤ safe.length) (hn : n ≤ 32) (i : Nat) :
    (lay now safe s n)[i]? = if i / 32 = s ∧ i % 32 < n then now[i]? else safe[i]? := by
  have hb : ((now.drop (32 * s)).take n).length = n := by simp; omega
  unfold lay
  rw [spl_get (by omega), hb]
  by_cases h : 32 * s ≤ i ∧ i < 32 * s + n
  · rw [if_pos h, if_pos (by omega), List.getElem?_take_of_lt (by omega), List.getElem?_drop]
    congr 1
    omega
  · rw [if_neg h, if_neg (by omega)]
theorem left_length {now : List UInt8} {keep : List Int} {t : Nat} (ht : t ≤ 32) : ∀ {dirty : List Nat} {first : Bool} {safe : List UInt8}, now.length = safe.length → (∀ s ∈ dirty, 32 * s + 32 ≤ safe.length) → (left now keep t dirty first safe).length = safe.length
  | [], _, _, _, _ => rfl
  | s :: r, first, safe, hl, hd => by
    have hs := hd s (by simp)
    unfold left
    by_cases hk : (s : Int) ∈ keep
    · have h1 := lay_length hl hs (Nat.le_refl 32)
      rw [if_pos hk, left_length ht (by omega) (fun x hx => by have := hd x (by simp [hx]); omega), h1]
    · have h1 := lay_length (n := if first then t else 0) hl hs (by split <;> omega)
      rw [if_neg hk, left_length ht (by omega) (fun x hx => by have := hd x (by simp [hx]); omega), h1]
theorem stays_none {keep : List Int} {t s j : Nat} : ∀ {dirty : List Nat} {first : Bool}, s ∉ dirty → stays keep t s j dirty first = false
  | [], _, _ => rfl
  | x :: r, first, h => by
    simp only [List.mem_cons, not_or] at h
    unfold stays
    have hx : ¬ x = s := fun e => h.1 e.symm
    rw [if_neg hx, if_neg hx, stays_none h.2, stays_none h.2]
    split <;> rfl
theorem left_get {now : List UInt8} {keep : List Int} {t : Nat} (ht : t ≤ 32) : ∀ {dirty : List Nat} {first : Bool} {safe : List UInt8}, dirty.Nodup → now.length = safe.length → (∀ s ∈ dirty, 32 * s + 32 ≤ safe.length) → ∀ i,
    (left now keep t dirty first safe)[i]? = if stays keep t (i / 32) (i % 32) dirty first = true then now[i]? else safe[i]?
  | [], _, _, _, _, _, i => by simp [left, stays]
  | s :: r, first, safe, hn, hl, hd, i => by
    have hs := hd s (by simp)
    rw [List.nodup_cons] at hn
    unfold left stays
    by_cases hk : (s : Int) ∈ keep
    · have h1 := lay_length hl hs (Nat.le_refl 32)
      rw [if_pos hk, if_pos hk, left_get ht hn.2 (by omega) (fun x hx => by have := hd x (by simp [hx]); omega), lay_get hl hs (Nat.le_refl 32)]
      by_cases hsi : s = i / 32
      · rw [if_pos hsi, stays_none (by rw [← hsi]; exact hn.1)]
        rw [if_neg (by simp), if_pos ⟨hsi.symm, by omega⟩, if_pos rfl]
      · rw [if_neg hsi]
        congr 1
        rw [if_neg (by omega)]
    · have h1 := lay_length (n := if first then t else 0) hl hs (by split <;> omega)
      rw [if_neg hk, if_neg hk, left_get ht hn.2 (by omega) (fun x hx => by have := hd x (by simp [hx]); omega), lay_get hl hs (by split <;> omega)]
      by_cases hsi : s = i / 32
      · rw [if_pos hsi, stays_none (by rw [← hsi]; exact hn.1), if_neg (by simp)]
        cases first <;> simp [hsi]
      · rw [if_neg hsi]
        congr 1
        rw [if_neg (by omega)]

def crash (d : DM) (keep : List Int) (torn : Int) : DM :=
  { d with now := left d.now keep (clip torn) d.dirty true d.safe, safe := left d.now keep (clip torn) d.dirty true d.safe, dirty := [], off := true, armed := 0 }
/-- An act that would do something: does the power go? -/
def strike (d : DM) : Bool × DM := if d.armed = 0 then (false, d) else if d.armed = 1 then (true, crash d d.keep d.torn) else (false, { d with armed := d.armed - 1 })
def write (d : DM) (p : Int) (b : List UInt8) : Nat × DM :=
  if d.off then (7, d) else if p < 0 then (2, d) else if (d.now.length : Int) < p ∨ (d.now.length : Int) - p < b.length then (6, d) else if b = [] then (0, d) else
    match strike d with
    | (true, e) => (7, e)
    | (false, e) => (0, { e with now := spl e.now p.toNat b, dirty := touch e.dirty p.toNat b.length })
def read (d : DM) (p n : Int) : List UInt8 × Nat :=
  if d.off then ([], 7) else if p < 0 ∨ n < 0 ∨ (d.now.length : Int) < p ∨ (d.now.length : Int) - p < n then ([], 2) else ((d.now.drop p.toNat).take n.toNat, 0)
def sync (d : DM) : Nat × DM :=
  if d.off then (7, d) else if d.dirty = [] then (0, d) else
    match strike d with
    | (true, e) => (7, e)
    | (false, e) => (0, { e with safe := e.now, dirty := [] })
def arm (d : DM) (ops : Int) (keep : List Int) (torn : Int) : DM := { d with armed := ops.toNat, keep := keep, torn := torn }
def crashed (d : DM) (keep : List Int) (torn : Int) : Bool × DM := if d.off then (false, d) else (true, crash d keep torn)
def start (d : DM) : Bool × DM := if d.off then (true, { d with off := false, dirty := [] }) else (false, d)

/-- What holds of every disk of S sectors. -/
structure Ok (S : Nat) (d : DM) : Prop where
  now : d.now.length = 32 * S
  safe : d.safe.length = 32 * S
  nodup : d.dirty.Nodup
  low : ∀ s ∈ d.dirty, s < S
  alike : ∀ i, i / 32 ∉ d.dirty → d.now[i]? = d.safe[i]?
theorem ok_new (S : Nat) : Ok S (new S) := ⟨by simp [new], by simp [new], by simp [new], by simp [new], fun i _ => rfl⟩
theorem Ok.fits {S : Nat} {d : DM} (h : Ok S d) : ∀ s ∈ d.dirty, 32 * s + 32 ≤ d.safe.length := fun s hs => by have := h.low s hs; have := h.safe; omega
theorem Ok.crash {S : Nat} {d : DM} (h : Ok S d) (keep : List Int) (torn : Int) : Ok S (crash d keep torn) := by
  have hl := left_length (keep := keep) (clip_le torn) (first := true) (h.now.trans h.safe.symm) h.fits
  exact ⟨hl.trans h.safe, hl.trans h.safe, List.nodup_nil, by simp [Pd.crash], fun i _ => rfl⟩
theorem Ok.strike {S : Nat} {d : DM} (h : Ok S d) : Ok S (strike d).2 := by
  unfold Pd.strike
  split
  · exact h
  · split
    · exact h.crash _ _
    · exact ⟨h.now, h.safe, h.nodup, h.low, h.alike⟩
theorem Ok.write {S : Nat} {d : DM} (h : Ok S d) (p : Int) (b : List UInt8) : Ok S (write d p b).2 := by
  unfold Pd.write
  split
  · exact h
  split
  · exact h
  split
  · exact h
  split
  · exact h
  have hk := h.strike
  cases hs : Pd.strike d with
  | mk x e =>
    rw [hs] at hk
    cases x with
    | true => exact hk
    | false =>
      rename_i h1 h2 h3 h4
      have he : e.now.length = d.now.length := hk.now.trans h.now.symm
      have hfit : p.toNat + b.length ≤ e.now.length := by rw [he]; omega
      refine ⟨(spl_length hfit).trans hk.now, hk.safe, touch_nodup hk.nodup _, fun s hs => ?_, fun i hi => ?_⟩
      · rcases mem_touch.1 hs with hs | ⟨j, hj, rfl⟩
        · exact hk.low s hs
        · have hen : e.now.length = 32 * S := hk.now
          omega
      · have hnt : i / 32 ∉ e.dirty ∧ ¬ (p.toNat ≤ i ∧ i < p.toNat + b.length) := by
          refine ⟨fun hm => hi (mem_touch.2 (.inl hm)), fun hm => hi (mem_touch.2 (.inr ⟨i - p.toNat, by omega, by congr 1; omega⟩))⟩
        show (spl e.now p.toNat b)[i]? = e.safe[i]?
        rw [spl_get hfit, if_neg hnt.2]
        exact hk.alike i hnt.1
theorem Ok.sync {S : Nat} {d : DM} (h : Ok S d) : Ok S (sync d).2 := by
  unfold Pd.sync
  split
  · exact h
  split
  · exact h
  have hk := h.strike
  cases hs : Pd.strike d with
  | mk x e =>
    rw [hs] at hk
    cases x with
    | true => exact hk
    | false => exact ⟨hk.now, hk.now, List.nodup_nil, by simp, fun i _ => rfl⟩
theorem Ok.arm {S : Nat} {d : DM} (h : Ok S d) (ops : Int) (keep : List Int) (torn : Int) : Ok S (arm d ops keep torn) := ⟨h.now, h.safe, h.nodup, h.low, h.alike⟩
theorem Ok.start {S : Nat} {d : DM} (h : Ok S d) (hd : d.off = true → d.dirty = []) : Ok S (start d).2 := by
  unfold Pd.start
  split
  · rename_i ho
    exact ⟨h.now, h.safe, List.nodup_nil, by simp, fun i _ => h.alike i (by rw [hd ho]; simp)⟩
  · exact h
/-- Of a disk that lost its power nothing is dirty. -/
def Dark (d : DM) : Prop := d.off = true → d.dirty = []
/-- With all dirty sectors kept all is there. -/
theorem stays_all {keep : List Int} {t s j : Nat} : ∀ {dirty : List Nat} {first : Bool}, s ∈ dirty → (∀ x ∈ dirty, (x : Int) ∈ keep) → stays keep t s j dirty first = true
  | x :: r, first, h, hk => by
    unfold stays
    rw [if_pos (hk x (by simp))]
    by_cases hx : x = s
    · rw [if_pos hx]
    · rw [if_neg hx]
      exact stays_all ((List.mem_cons.1 h).resolve_left (fun e => hx e.symm)) (fun y hy => hk y (by simp [hy]))
theorem crash_all {S : Nat} {d : DM} (h : Ok S d) {keep : List Int} (hk : ∀ x ∈ d.dirty, (x : Int) ∈ keep) (torn : Int) : (crash d keep torn).now = d.now := by
  apply List.ext_getElem?
  intro i
  show (left d.now keep (clip torn) d.dirty true d.safe)[i]? = _
  rw [left_get (clip_le torn) h.nodup (h.now.trans h.safe.symm) h.fits]
  by_cases hi : i / 32 ∈ d.dirty
  · rw [stays_all hi hk, if_pos rfl]
  · rw [stays_none hi, if_neg (by simp)]
    exact (h.alike i hi).symm
/-- What was not dirty is there. -/
theorem crash_clean {S : Nat} {d : DM} (h : Ok S d) (keep : List Int) (torn : Int) {i : Nat} (hi : i / 32 ∉ d.dirty) : (crash d keep torn).now[i]? = d.now[i]? := by
  show (left d.now keep (clip torn) d.dirty true d.safe)[i]? = _
  rw [left_get (clip_le torn) h.nodup (h.now.trans h.safe.symm) h.fits, stays_none hi, if_neg (by simp)]
  exact (h.alike i hi).symm
/-- The first dirty sector that is not kept. -/
def cut1 (keep : List Int) : List Nat → Option Nat
  | [] => none
  | x :: r => if (x : Int) ∈ keep then cut1 keep r else some x
theorem stays_kept {keep : List Int} {t s j : Nat} (hk : (s : Int) ∈ keep) : ∀ {dirty : List Nat} {first : Bool}, s ∈ dirty → stays keep t s j dirty first = true
  | x :: r, first, h => by
    unfold stays
    by_cases hx : x = s
    · subst hx
      rw [if_pos hk, if_pos rfl]
    · have hr := (List.mem_cons.1 h).resolve_left (fun e => hx e.symm)
      rw [if_neg hx, if_neg hx, stays_kept hk hr, stays_kept hk hr]
      split <;> rfl
theorem stays_late {keep : List Int} {t s j : Nat} (hk : (s : Int) ∉ keep) : ∀ {dirty : List Nat}, stays keep t s j dirty false = false
  | [] => rfl
  | x :: r => by
    unfold stays
    by_cases hx : x = s
    · subst hx
      rw [if_neg hk, if_pos rfl]; rfl
    · rw [if_neg hx, if_neg hx, stays_late hk]
      split <;> rfl
theorem stays_cut {keep : List Int} {t s j : Nat} (hk : (s : Int) ∉ keep) : ∀ {dirty : List Nat}, stays keep t s j dirty true = (decide (cut1 keep dirty = some s) && decide (j < t))
  | [] => by simp [stays, cut1]
  | x :: r => by
    unfold stays cut1
    by_cases hx : (x : Int) ∈ keep
    · have hne : ¬ x = s := fun e => hk (e ▸ hx)
      rw [if_pos hx, if_pos hx, if_neg hne, stays_cut hk]
    · rw [if_neg hx, if_neg hx]
      by_cases he : x = s
      · rw [if_pos he]; simp [he]
      · rw [if_neg he, stays_late hk]; simp [he]
/-- A sector that is kept is as it was written last. -/
theorem crash_kept {S : Nat} {d : DM} (h : Ok S d) {keep : List Int} (torn : Int) {i : Nat} (hi : ((i / 32 : Nat) : Int) ∈ keep) : (crash d keep torn).now[i]? = d.now[i]? := by
  by_cases hd : i / 32 ∈ d.dirty
  · show (left d.now keep (clip torn) d.dirty true d.safe)[i]? = _
    rw [left_get (clip_le torn) h.nodup (h.now.trans h.safe.symm) h.fits, stays_kept hi hd, if_pos rfl]
  · exact crash_clean h keep torn hd
/-- One that is not kept is as it was synced, but for the first: its begin is as it was written last. -/
theorem crash_cut {S : Nat} {d : DM} (h : Ok S d) {keep : List Int} (torn : Int) {i : Nat} (hi : ((i / 32 : Nat) : Int) ∉ keep) :
    (crash d keep torn).now[i]? = if cut1 keep d.dirty = some (i / 32) ∧ i % 32 < clip torn then d.now[i]? else d.safe[i]? := by
  show (left d.now keep (clip torn) d.dirty true d.safe)[i]? = _
  rw [left_get (clip_le torn) h.nodup (h.now.trans h.safe.symm) h.fits, stays_cut hi]
  simp only [Bool.and_eq_true, decide_eq_true_eq]
end Go.Proofs.Ytnkcjhfdmnpckaa.Pd
