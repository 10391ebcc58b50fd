/-
  A scan of a law's own store, and what it keeps.
-/
import Derived.Test.YtgaoionnfkbhaaaStSm
import Derived.Test.YtgaoionnfkbhaaaStO
namespace Go.Proofs.Ytgaoionnfkbhaaa
open Go.RowKit
theorem fm_eq {β : Type} {ks ks' : List ByteArray} (h : Srt ks) (h' : Srt ks') {g : ByteArray → Option β} (hg : ∀ k, g k ≠ none → (k ∈ ks ↔ k ∈ ks')) : ks.filterMap g = ks'.filterMap g := by
  have e : ∀ l : List ByteArray, l.filterMap g = (l.filter fun k => (g k).isSome).filterMap g := by
    intro l
    induction l with
    | nil => rfl
    | cons x l ih =>
      cases hx : g x with
      | none => simp [hx, ih]
      | some y => simp [hx, ih]
  rw [e ks, e ks']
  congr 1
  refine srt_unique (h.filter _) (h'.filter _) fun k => ?_
  simp only [List.mem_filter]
  constructor
  · rintro ⟨h1, h2⟩
    exact ⟨(hg k (fun hn => by rw [hn] at h2; cases h2)).1 h1, h2⟩
  · rintro ⟨h1, h2⟩
    exact ⟨(hg k (fun hn => by rw [hn] at h2; cases h2)).2 h1, h2⟩
theorem getP_nil (n : Int) : (getP [] n).2 = false := rfl
theorem scan1_mem {s : SP} {ks : List ByteArray} (h : Inv s ks) {n : Int} {k : ByteArray} (hs : scan1 s n k ≠ none) : k ∈ ks := by
  rw [h.mem]
  intro he
  apply hs
  unfold scan1
  rw [he, getP_nil]
  rfl
theorem scanL_eq {s s' : SP} {ks ks' : List ByteArray} (h : Inv s ks) (h' : Inv s' ks') {n : Int} (hg : ∀ k, getP (s.ch k) n = getP (s'.ch k) n) (a b : ByteArray) : scanL s ks a b n = scanL s' ks' a b n := by
  have e : scan1 s n = scan1 s' n := by
    funext k
    unfold scan1
    rw [hg k]
  unfold scanL
  rw [← e]
  refine fm_eq (h.srt.filter _) (h'.srt.filter _) fun k hk => ?_
  simp only [List.mem_filter]
  have h1 := scan1_mem h hk
  rw [e] at hk
  have h2 := scan1_mem h' hk
  exact ⟨fun x => ⟨h2, x.2⟩, fun x => ⟨h1, x.2⟩⟩
theorem getP_upto {L L' : List Ver} (h : gd 0 L = true) (h' : gd 0 L' = true) {n : Int} (hu : upto n L = upto n L') : getP L n = getP L' n := by
  unfold getP
  rw [h, h', hu]
theorem addL_upto {n N : Int} (hn : n < N) : ∀ (l : List Pr) (ch : ByteArray → List Ver) (k : ByteArray), upto n (addL ch N l k) = upto n (ch k)
  | [], _, _ => rfl
  | p :: l, ch, k => by
    have ih := addL_upto hn l (add1 ch N p) k
    show upto n (addL (add1 ch N p) N l k) = _
    rw [ih]
    unfold add1
    split
    · unfold upto
      rw [List.filter_append]
      have : ¬ N ≤ n := by omega
      simp [verOf, this]
    · rfl
def ff : ByteArray := ⟨#[255, 255]⟩
/-- What a scan of a snapshot gave, it gives again. -/
def KeepP (s : SP) (snap : Int) (W : List Pr) : Prop := s.floor ≤ snap ∧ snap ≤ s.last ∧ ∃ ks, Inv s ks ∧ scanS s ks em ff snap 1000 = (W, 0)
theorem may0 {s : SP} {n : Int} (h1 : s.floor ≤ n) (h2 : n ≤ s.last) : mayP s n = 0 := by
  unfold mayP
  rw [if_neg (by omega), if_neg (by omega)]
theorem keep_start {s : SP} {ks : List ByteArray} (h : Inv s ks) : ∃ W, KeepP s s.last W := by
  refine ⟨(scanS s ks em ff s.last 1000).1, h.fle, Int.le_refl _, ks, h, ?_⟩
  unfold scanS
  rw [if_pos (may0 h.fle (Int.le_refl _))]
theorem KeepP.of {s s' : SP} {snap : Int} {W : List Pr} (h : KeepP s snap W) (h1 : s'.floor ≤ snap) (h2 : snap ≤ s'.last) {ks' : List ByteArray} (hi : Inv s' ks') (hg : ∀ k, getP (s.ch k) snap = getP (s'.ch k) snap) : KeepP s' snap W := by
  obtain ⟨h3, h4, ks, h5, h6⟩ := h
  refine ⟨h1, h2, ks', hi, ?_⟩
  rw [← h6]
  unfold scanS
  rw [if_pos (may0 h1 h2), if_pos (may0 h3 h4), scanL_eq h5 hi hg]
theorem KeepP.install {s : SP} {snap : Int} {W : List Pr} (h : KeepP s snap W) {N : Int} {l : List Pr} {ks' : List ByteArray} (hi : Inv (instP s N l) ks') : KeepP (instP s N l) snap W := by
  have h0 := h
  obtain ⟨h3, h4, ks, h5, -⟩ := h0
  unfold instP at hi ⊢
  split
  · rename_i hq
    rw [if_pos hq] at hi
    unfold instOk at hq
    rw [Bool.and_eq_true, decide_eq_true_eq] at hq
    refine h.of h3 (by show snap ≤ N; omega) hi fun k => (getP_upto (hi.good k) (h5.good k) (addL_upto (by omega) l s.ch k)).symm
  · exact h
theorem KeepP.collect {s : SP} {snap : Int} {W : List Pr} (h : KeepP s snap W) {n : Int} (hn : n ≤ snap ∨ s.last ≤ snap) {ks' : List ByteArray} (hi : Inv (collP s n) ks') : KeepP (collP s n) snap W := by
  have h0 := h
  obtain ⟨h3, h4, ks, h5, -⟩ := h0
  unfold collP at hi ⊢
  split
  · rename_i hq
    rw [if_pos hq] at hi
    unfold collOk at hq
    rw [Bool.and_eq_true, decide_eq_true_eq, decide_eq_true_eq] at hq
    have hle : n ≤ snap := by omega
    exact h.of hle h4 hi fun k => (trim_get (h5.good k) hle).symm
  · exact h
theorem LS.scan {w wr : World} {D i : Nat} {s : SP} {O : Nat → Prop} (h : LS w wr D i s O) (hi : i ≤ 1000) {ks : List ByteArray} (hks : Inv s ks) (a b : ByteArray) (n mo : Int) :
    Calls Try.prog 23 #[.pointer (some ⟨D, 0, none⟩), .string a, .string b, .int .i64 n, .int .i64 mo] wr fun e w' => ∃ v', e = .returned (.tuple #[v', .int .i64 (scanS s ks a b n mo).2]) ∧ OwnG PE w' wr.heap.size 49 v' (scanS s ks a b n mo).1 ∧ Below wr.heap.size wr w' := by
  obtain ⟨M, vk, ks', h1, h2, h3, -⟩ := h
  obtain rfl := hks.unique h1.st.inv
  exact scan_any h1.st (by omega) (by omega) a b n mo
theorem LS.scanK {w wr : World} {D i : Nat} {s : SP} {O : Nat → Prop} (h : LS w wr D i s O) (hi : i ≤ 1000) {snap : Int} {W : List Pr} (hk : KeepP s snap W) :
    Calls Try.prog 23 #[.pointer (some ⟨D, 0, none⟩), .string ⟨#[]⟩, .string ⟨#[255, 255]⟩, .int .i64 snap, .int .i64 1000] wr fun e w' => ∃ v', e = .returned (.tuple #[v', .int .i64 0]) ∧ OwnG PE w' wr.heap.size 49 v' W ∧ Below wr.heap.size wr w' := by
  obtain ⟨-, -, ks, h1, h2⟩ := hk
  have := h.scan hi h1 em ff snap 1000
  rw [h2] at this
  exact this
/-- A row that is new is none of its. -/
theorem LS.row {w wr wr' : World} {D i : Nat} {s : SP} {O : Nat → Prop} (h : LS w wr D i s O) (hb : Below wr.heap.size wr wr') {v : Value} {L : List Pr} (hv : OwnG PE wr' wr.heap.size 49 v L) : LS w wr' D i s (fun b => O b ∨ InB v b) := by
  obtain ⟨M, vk, ks, h1, h2, h3, h4⟩ := h
  refine ⟨M, vk, ks, h1.kept hb, h2, h3, fun b hO => ?_⟩
  rcases hO with hO | hO
  · exact ⟨Nat.lt_of_lt_of_le (h4 b hO).1 hb.size, (h4 b hO).2⟩
  · obtain ⟨h5, h6, -⟩ := hv.block (inB_own hO)
    exact ⟨h6, fun hm => by have := h1.st.lt hm; omega⟩
theorem RdG.same {α : Type} {E : Enc α} {O : Nat → Prop} {w w' : World} {v : Value} {L : List α} (h : RdG E w v L) (hs : Same O w w') (hO : ∀ b, InB v b → O b) : RdG E w' v L := by
  obtain ⟨a, cap, rfl, h1, h2, h3, h4⟩ := h
  refine ⟨a, cap, rfl, h1, h2, h3, fun hl => ?_⟩
  obtain ⟨b, off, rfl, hlt, hcell⟩ := h4 hl
  have hb := hs b (hO b ⟨off, _, _, rfl, hl⟩)
  refine ⟨b, off, rfl, ?_, fun j u hj => ?_⟩
  · rw [Array.getElem?_eq_getElem hlt] at hb
    exact (Array.getElem?_eq_some_iff.1 hb).1
  · rw [← hcell j u hj]
    simp only [World.cell?]
    rw [hb]
theorem no_inB (b : Nat) : ¬ InB (.slice none 0 0) b := by
  rintro ⟨off, n, cap, h, hn⟩
  cases h
end Go.Proofs.Ytgaoionnfkbhaaa
