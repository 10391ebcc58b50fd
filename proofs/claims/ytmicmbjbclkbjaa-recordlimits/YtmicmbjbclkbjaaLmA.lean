/-
  A record of just so many bytes, plain; what may not be, plain.
-/
import Derived.Test.YtmicmbjbclkbjaaRcK
namespace Go.Proofs.Ytmicmbjbclkbjaa
open Go.RowKit
def lzero : List UInt8 := List.replicate 256 0
def lval : ByteArray := ⟨lzero.toArray⟩
def lkey (i : Nat) : ByteArray := ⟨[UInt8.ofNat (97 + i)].toArray⟩
def lpr (i : Nat) : Pr := (lkey i, lval, false)
def wsL (k : Nat) : List Pr := (List.range k).map lpr
theorem wsL_zero : wsL 0 = [] := rfl
theorem wsL_succ (k : Nat) : wsL (k + 1) = wsL k ++ [lpr k] := by
  unfold wsL
  rw [List.range_succ, List.map_append, List.map_singleton]
theorem wsL_len (k : Nat) : (wsL k).length = k := by
  unfold wsL
  rw [List.length_map, List.length_range]
theorem lim_good : goodP em (wsL 34) = true := by decide +kernel
theorem lim_len : ((List.range 34).all fun i => (eW (lpr i)).length == 262) = true := by decide +kernel
theorem lim_enc : ((List.range 35).all fun k => (enc k).length == 1) = true := by decide +kernel
theorem goodP_app : ∀ {A B : List Pr} {last : ByteArray}, goodP last (A ++ B) = true → goodP last A = true
  | [], _, _, _ => rfl
  | p :: A, B, last, h => by
    rw [List.cons_append] at h
    unfold goodP at h ⊢
    rw [Bool.and_eq_true] at h ⊢
    exact ⟨h.1, goodP_app h.2⟩
theorem wsL_good {k : Nat} (hk : k ≤ 34) : goodP em (wsL k) = true := by
  refine goodP_app (B := (wsL 34).drop k) ?_
  have h : (wsL 34).take k = wsL k := by
    unfold wsL
    rw [← List.map_take, List.take_range, Nat.min_eq_left hk]
  rw [← h, List.take_append_drop]
  exact lim_good
theorem wsL_bytes : ∀ {k : Nat}, k ≤ 34 → ((wsL k).flatMap eW).length = 262 * k
  | 0, _ => rfl
  | k + 1, h => by
    have h1 := List.all_eq_true.1 lim_len k (List.mem_range.2 (by omega))
    rw [beq_iff_eq] at h1
    rw [wsL_succ, List.flatMap_append, List.flatMap_singleton, List.length_append, wsL_bytes (by omega), h1]
    omega
theorem enc1 {k : Nat} (h : k ≤ 34) : (enc k).length = 1 := by
  have h1 := List.all_eq_true.1 lim_enc k (List.mem_range.2 (by omega))
  rwa [beq_iff_eq] at h1
/-- A record of k such writes. -/
def rlim (k : Nat) (p : Option Addr) (c : Nat) : Rc := ⟨1, 0, false, [], wsL k, none, 0, p, c⟩
theorem rlim_sound {k : Nat} (hk : k ≤ 34) (p : Option Addr) (c : Nat) : soundP (rlim k p c) = true := by
  unfold soundP rsP wsP rlim
  simp only [List.map_nil, wsL_len, wsL_good hk]
  have : decide (k ≤ 64) = true := decide_eq_true (by omega)
  rw [this]
  rfl
theorem rlim_len {k : Nat} (hk : k ≤ 34) (p : Option Addr) (c : Nat) : (eD (pdR (rlim k p c))).length = 5 + 262 * k := by
  unfold eD pdR rlim eL
  simp only [List.map_nil, List.flatMap_nil, List.length_append, List.length_nil, wsL_len, wsL_bytes hk, enc1 hk]
  rw [show (enc (Int.toNat 1)).length = 1 from enc1 (k := 1) (by omega), show (enc (Int.toNat 0)).length = 1 from enc1 (k := 0) (by omega), show (enc 0).length = 1 from enc1 (k := 0) (by omega), show (fl false).length = 1 from rfl]
  omega
theorem lt_no (a : ByteArray) : lt a em = false := by
  unfold lt
  rw [em_list]
  cases a.toList <;> rfl
theorem goodP_bad : ∀ {A : List Pr} {last : ByteArray}, goodP last (A ++ [(em, em, false)]) = false
  | [], last => by
    rw [List.nil_append]
    unfold goodP pOk
    rw [lt_no]
    rfl
  | p :: A, last => by
    rw [List.cons_append]
    unfold goodP
    rw [goodP_bad, Bool.and_false]
theorem bad_one (r : Rc) : goodR { r with ses := 9 } = false := by
  unfold goodR soundP
  rw [show decide (({ r with ses := 9 } : Rc).ses ≤ 8) = false from rfl]
  simp
theorem bad_two (r : Rc) : goodR { r with snap := -1 } = false := by
  unfold goodR soundP
  rw [show decide (0 ≤ ({ r with snap := -1 } : Rc).snap) = false from rfl]
  simp
theorem bad_three (r : Rc) (p : Option Addr) (c : Nat) : goodR { r with ws := r.ws ++ [(em, em, false)], wa := p, wc := c } = false := by
  unfold goodR soundP wsP
  simp only [goodP_bad, Bool.and_false, Bool.false_and]
theorem build_lim : ∀ W : World, (Instr.build 27 #[(0, .int .i64 1)]).run Try.prog W = .ok (.agg #[.int .i64 1, .int .i64 0, .bool false, .slice none 0 0, .slice none 0 0]) W := fun W => by kernel_rfl
theorem build_b1 (n : Int) (w : World) : (Instr.buildSlice 22 1 #[(0, .int .u8 n)]).run Try.prog w = .ok (.slice (some ⟨w.heap.size, 0, none⟩) 1 1) (w.alloc (.cells #[.int .u8 n] 5 (0, 0))) := by kernel_rfl
theorem build_p0 (w : World) : (Instr.buildSlice 25 0 #[]).run Try.prog w = .ok (.slice (some ⟨w.heap.size, 0, none⟩) 0 0) (w.alloc (.cells #[] 41 (0, 0))) := by kernel_rfl
theorem build_pz : ∀ W : World, (Instr.build 41 #[]).run Try.prog W = .ok (.agg (PC (em, em, false)).toArray) W := fun W => by kernel_rfl
theorem build_kvl (k v : ByteArray) : ∀ W : World, (Instr.build 41 #[(0, .string k), (1, .string v)]).run Try.prog W = .ok (.agg (PC (k, v, false)).toArray) W := fun W => by kernel_rfl
theorem lmake {i0 : TypeInfo} (hi0 : Try.prog.info? 5 = some i0) (hz0 : i0.zero = some (.int .u8 0)) (hz1 : i0.size = 1) (hz2 : i0.bytes = 1) (M : Nat) (hM : M ≤ 1000000) (W : World) :
    (Instr.makeSlice 22 (.int .i64 (M : Int)) (.int .i64 (M : Int))).run Try.prog W = .ok (.slice (some ⟨W.heap.size, 0, none⟩) M M) (W.alloc (.cells (Array.replicate M (Value.int .u8 0)) 5)) := by
  have hrun := run_make (P := Try.prog) W 22 5 i0 (.int .u8 0) Try.underlying22 hi0 hz0 .i64 .i64 M M (by omega) (by omega) (by rw [hz2]; omega) (by omega)
  have e : madeCells (Value.int .u8 0).cells ((M : Int).toNat * i0.size) = Array.replicate M (Value.int .u8 0) := by
    apply Array.ext'
    rw [hz1]
    show (madeCells #[Value.int .u8 0] _).toList = _
    rw [toList_madeCells_one]
    simp
  rw [e] at hrun
  simpa only [Int.toNat_natCast] using hrun
theorem make256 (W : World) : (Instr.makeSlice 22 (.int .i64 256) (.int .i64 256)).run Try.prog W = .ok (.slice (some ⟨W.heap.size, 0, none⟩) 256 256) (W.alloc (.cells (By lzero).toArray 5 (0, 0))) := by
  obtain ⟨i0, hi0, hz0, hz1, hz2⟩ := info_parts Try.info5
  have h := lmake hi0 hz0 hz1 hz2 256 (by omega) W
  have e : Array.replicate 256 (Value.int .u8 0) = (By lzero).toArray := by
    apply Array.ext'
    unfold lzero By
    rw [List.map_replicate]
    simp
  rw [e] at h
  exact h
theorem rd256 (W : World) : Rd (W.alloc (.cells (By lzero).toArray 5 (0, 0))) (.slice (some ⟨W.heap.size, 0, none⟩) 256 256) lzero := by
  have hl : lzero.length = 256 := by decide +kernel
  refine ⟨some ⟨W.heap.size, 0, none⟩, 256, by rw [hl], by rw [hl]; omega, by unfold maxLen; omega, (fun h => by cases h), fun _ => ⟨W.heap.size, 0, rfl, by simp, fun j u hj => ?_⟩⟩
  have := (Blk.new W 5 (By lzero)).cell (j := j) (v := u) hj
  rwa [Nat.zero_add]
#print axioms rd256
end Go.Proofs.Ytmicmbjbclkbjaa
