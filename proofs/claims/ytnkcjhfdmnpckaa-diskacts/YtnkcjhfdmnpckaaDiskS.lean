/-
  A Disk in memory; isMade, ready, Size, ends, On: what the calls do.
-/
import Derived.Test.YtnkcjhfdmnpckaaDiskM
namespace Go.Proofs.Ytnkcjhfdmnpckaa
open Go.RowKit

/-- What package disk keeps of a disk. -/
structure St where
  on : Bool
  safe : List UInt8
  f : Int → Option (List UInt8)
  order : List Nat
  ops : Nat
  keep : List Int
  torn : Int
def Nats (l : List Nat) : List Int := l.map fun n : Nat => (n : Int)
theorem Nats_length (l : List Nat) : (Nats l).length = l.length := by simp [Nats]
/-- The cells of a Disk. -/
def DB (on : Bool) (S n cap M : Nat) (vo : Value) (ops : Int) (vk : Value) (torn : Int) : List Value :=
  [.bool on, .slice (some ⟨S, 0, none⟩) n cap, .map (some M), vo, .int .i64 ops, vk, .int .i64 torn]
/-- Sectors in a row that the slice v owns. -/
def OwnS (w : World) (S n cap : Nat) (l : List UInt8) : Prop := w.ownsRow 0 68 32 (.slice (some ⟨S, 0, none⟩) n cap) n (By l)
theorem OwnS.blk {w : World} {S n cap : Nat} {l : List UInt8} (h : OwnS w S n cap l) : ∃ cur : List Value, Blk w S 68 cur ∧ cur.take (n * 32) = By l ∧ cur.length = cap * 32 ∧ n ≤ cap ∧ cap ≤ maxLen := by
  obtain ⟨h1, h2⟩ := h
  rcases h2 with ⟨h2, _⟩ | ⟨g, cap', cur, hv, hg, hh, hnc, hcm, hcs, htk⟩
  · cases h2
  · cases hv
    exact ⟨cur.toList, by simpa [Blk] using hh, htk, by simpa using hcs, hnc, hcm⟩
theorem OwnS.len {w : World} {S n cap : Nat} {l : List UInt8} (h : OwnS w S n cap l) : l.length = n * 32 := by
  have := h.1
  rwa [By_length] at this
theorem OwnS.of_blk {w : World} {S n cap : Nat} {l : List UInt8} {cur : List Value} (hb : Blk w S 68 cur) (ht : cur.take (n * 32) = By l) (hl : l.length = n * 32) (hc : cur.length = cap * 32) (h1 : n ≤ cap) (h2 : cap ≤ maxLen) : OwnS w S n cap l :=
  ⟨by rw [By_length, hl], .inr ⟨S, cap, cur.toArray, rfl, Nat.zero_le _, hb, h1, h2, by simpa using hc, by simpa using ht⟩⟩
theorem OwnS.chg {w w' : World} {S n cap : Nat} {l : List UInt8} {F : Nat → Prop} (h : OwnS w S n cap l) (hc : Chg F w w') (hF : ¬ F S) : OwnS w' S n cap l := by
  obtain ⟨cur, hb, ht, hl, h1, h2⟩ := h.blk
  exact OwnS.of_blk (hb.chg hc hF) ht h.len hl h1 h2
theorem OwnS.lt {w : World} {S n cap : Nat} {l : List UInt8} (h : OwnS w S n cap l) : S < w.heap.size := by
  obtain ⟨cur, hb, _⟩ := h.blk
  exact hb.lt
/-- Block D is a Disk: its sectors lie in block S, the dirty ones (N of them) in the map M. -/
structure At (w : World) (D S M n cap N : Nat) (vo vk : Value) (s : St) : Prop where
  d : Blk w D 56 (DB s.on S n cap M vo s.ops vk s.torn)
  sf : OwnS w S n cap s.safe
  mp : MapS w M s.f N
  od : OwnN w vo (Nats s.order)
  kp : RdN w vk s.keep
  kw : ∀ k ∈ s.keep, (Lit.int .i64 k).wf = true
  pos : 0 < n
  max : n ≤ 4096
theorem At.DS {w : World} {D S M n cap N : Nat} {vo vk : Value} {s : St} (h : At w D S M n cap N vo vk s) : D ≠ S := fun e => by
  obtain ⟨cur, hb, _⟩ := h.sf.blk
  have := h.d
  rw [e] at this
  unfold Blk at hb this
  rw [hb] at this
  cases this
theorem At.DM {w : World} {D S M n cap N : Nat} {vo vk : Value} {s : St} (h : At w D S M n cap N vo vk s) : D ≠ M := fun e => by
  obtain ⟨es, clock, hb⟩ := h.mp.block
  have := h.d
  rw [e] at this
  unfold Blk at this
  rw [hb] at this
  cases this
theorem At.SM {w : World} {D S M n cap N : Nat} {vo vk : Value} {s : St} (h : At w D S M n cap N vo vk s) : S ≠ M := fun e => by
  obtain ⟨cur, hb, _⟩ := h.sf.blk
  obtain ⟨es, clock, hb'⟩ := h.mp.block
  rw [e] at hb
  unfold Blk at hb
  rw [hb'] at hb
  cases hb
theorem At.VD {w : World} {D S M n cap N : Nat} {vo vk : Value} {s : St} (h : At w D S M n cap N vo vk s) {b : Nat} (hb : vo.ownBlock = some b) : b ≠ D ∧ b ≠ S ∧ b ≠ M := by
  obtain ⟨cur, hc⟩ := h.od.block hb
  refine ⟨fun e => ?_, fun e => ?_, fun e => ?_⟩
  · have := h.d
    rw [← e] at this
    unfold Blk at this
    rw [hc] at this
    cases this
  · obtain ⟨cur', hb', _⟩ := h.sf.blk
    rw [← e] at hb'
    unfold Blk at hb'
    rw [hc] at hb'
    cases hb'
  · obtain ⟨es, clock, hb'⟩ := h.mp.block
    rw [← e, hc] at hb'
    cases hb'
theorem At.len {w : World} {D S M n cap N : Nat} {vo vk : Value} {s : St} (h : At w D S M n cap N vo vk s) : s.safe.length = 32 * n := by have := h.sf.len; omega
/-- What changes no block of it leaves it. -/
theorem At.chg {w w' : World} {D S M n cap N : Nat} {vo vk : Value} {s : St} (h : At w D S M n cap N vo vk s) {F : Nat → Prop} (hc : Chg F w w') (h1 : ¬ F D) (h2 : ¬ F S) (h3 : ¬ F M) (h4 : ∀ b, vo.ownBlock = some b → ¬ F b) (h5 : ∀ b, InB vk b → ¬ F b) : At w' D S M n cap N vo vk s :=
  ⟨h.d.chg hc h1, h.sf.chg hc h2, h.mp.chg hc h3, h.od.chg hc h4, h.kp.chg hc h5, h.kw, h.pos, h.max⟩
theorem At.kept {w w' : World} {D S M n cap N : Nat} {vo vk : Value} {s : St} (h : At w D S M n cap N vo vk s) (hb : Below w.heap.size w w') : At w' D S M n cap N vo vk s :=
  h.chg (F := fun _ => False) (Chg.of_below hb) id id id (fun _ _ => id) (fun _ _ => id)

section
variable {w : World} {D S n cap M : Nat} {vo vk : Value} {on : Bool} {ops torn : Int}
set_option maxRecDepth 100000 in
theorem isMade_any (hB : Blk w D 56 (DB on S n cap M vo ops vk torn)) (hn : 0 < n) : Calls Try.prog 37 #[.pointer (some ⟨D, 0, none⟩)] w fun e w' => e = .returned (.bool true) ∧ w' = w := by
  have c1 := hB.cell (j := 1) rfl
  have q1 : (0 : Int) < (n : Int) := by omega
  clear hB
  go_enter Try.func37, Try.ntmps37
  go_wp2
  go_ret
  exact ⟨rfl, rfl⟩
set_option maxRecDepth 100000 in
theorem ready_any (hB : Blk w D 56 (DB on S n cap M vo ops vk torn)) (hn : 0 < n) : Calls Try.prog 32 #[.pointer (some ⟨D, 0, none⟩)] w fun e w' => e = .returned (.int .i64 (if on then 0 else 7)) ∧ w' = w := by
  have c0 := hB.cell (j := 0) rfl
  have HB : Hid (Blk w D 56 (DB on S n cap M vo ops vk torn)) := hB
  clear hB
  go_enter Try.func32, Try.ntmps32
  go_wp2_with fail
  refine (isMade_any HB.out hn).mono ?_
  rintro e w1 ⟨rfl, hw⟩; subst hw
  cases on
  · go_wp2
    go_ret
    exact ⟨rfl, rfl⟩
  · go_wp2
    go_ret
    exact ⟨rfl, rfl⟩
set_option maxRecDepth 100000 in
theorem on_any (hB : Blk w D 56 (DB on S n cap M vo ops vk torn)) (hn : 0 < n) : Calls Try.prog 25 #[.pointer (some ⟨D, 0, none⟩)] w fun e w' => e = .returned (.bool on) ∧ w' = w := by
  have c0 := hB.cell (j := 0) rfl
  have HB : Hid (Blk w D 56 (DB on S n cap M vo ops vk torn)) := hB
  clear hB
  go_enter Try.func25, Try.ntmps25
  go_wp2_with fail
  refine (isMade_any HB.out hn).mono ?_
  rintro e w1 ⟨rfl, hw⟩; subst hw
  go_wp2
  go_ret
  exact ⟨rfl, rfl⟩
set_option maxRecDepth 100000 in
theorem size_any (hB : Blk w D 56 (DB on S n cap M vo ops vk torn)) (hn : 0 < n) (hm : n ≤ 4096) : Calls Try.prog 19 #[.pointer (some ⟨D, 0, none⟩)] w fun e w' => e = .returned (.int .i64 ((32 * n : Nat) : Int)) ∧ w' = w := by
  have c1 := hB.cell (j := 1) rfl
  have HB : Hid (Blk w D 56 (DB on S n cap M vo ops vk torn)) := hB
  clear hB
  go_enter Try.func19, Try.ntmps19
  go_wp2_with fail
  refine (isMade_any HB.out hn).mono ?_
  rintro e w1 ⟨rfl, hw⟩; subst hw
  go_wp2
  go_ret
  refine ⟨?_, rfl⟩
  show Ending.returned (.int .i64 ((n : Int) * 32)) = _
  congr 2
  omega
set_option maxRecDepth 100000 in
theorem ends_any (hB : Blk w D 56 (DB on S n cap M vo ops vk torn)) (hn : 0 < n) (hm : n ≤ 4096) (p k : Int) (hp : 0 ≤ p) (hp2 : p < 9223372036854775808) :
    Calls Try.prog 33 #[.pointer (some ⟨D, 0, none⟩), .int .i64 p, .int .i64 k] w fun e w' => e = .returned (.bool (decide (k ≤ ((32 * n : Nat) : Int) - p))) ∧ w' = w := by
  have HB : Hid (Blk w D 56 (DB on S n cap M vo ops vk torn)) := hB
  clear hB
  go_enter Try.func33, Try.ntmps33
  go_wp2_with fail
  refine (size_any HB.out hn hm).mono ?_
  rintro e w1 ⟨rfl, hw⟩; subst hw
  go_wp2
  go_ret
  refine ⟨?_, rfl⟩
  congr 2
end
end Go.Proofs.Ytnkcjhfdmnpckaa
