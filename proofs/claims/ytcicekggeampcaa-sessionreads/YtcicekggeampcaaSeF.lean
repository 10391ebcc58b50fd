/-
  A store and a session beside each other: Begin, Close, Install.
-/
import Derived.Test.YtcicekggeampcaaSeU
namespace Go.Proofs.Ytcicekggeampcaa
open Go.RowKit
theorem Duo.new {w0 w1 w2 : World} {D X : Nat} {id : Int} (h : LS w0 w1 D 0 sp0 (fun _ => False)) (hs : SesAt w2 w1.heap.size X id none) (hb : Below w1.heap.size w1 w2) : Duo w0 w2 D 0 sp0 X id none :=
  ⟨h.more hb (fun b hb' => .inr (by cases hb'; exact ⟨hs.lo, hs.x.lt⟩)), ⟨hs.x, Nat.le_trans h.lo.size hs.lo, hs.id, fun _ _ e => by cases e⟩⟩
theorem Duo.begin {w0 w : World} {D i : Nat} {s : SP} {X : Nat} {id : Int} (h : Duo w0 w D i s X id none) (hi : i ≤ 1000) (st : Bool) :
    Calls Try.prog 14 #[PT X, PT D, .bool st] w fun e w' => e = .returned (.int .i64 0) ∧ ∃ b, Duo w0 w' D i s X id (some (b, ⟨s.last, st, [], [], 0⟩)) ∧ Chg (fun k => k = X) w w' ∧ ∀ k, b.G k → w.heap.size ≤ k := by
  refine (zBegin_any h.ls hi h.ss st).mono ?_
  rintro e w' ⟨rfl, b, h1, h2, h3⟩
  exact ⟨rfl, b, h.step h1 h2 (fun k hk => hk) (fun k hk => hk.imp (fun h => h) (h3 k)), h2, h3⟩
theorem Duo.close {w0 w : World} {D i : Nat} {s : SP} {X : Nat} {id : Int} {o : Option (Tb × Tx)} (h : Duo w0 w D i s X id o) :
    Calls Try.prog 26 #[PT X] w fun e w' => e = .returned (.bool o.isSome) ∧ Duo w0 w' D i s X id none ∧ Chg (fun k => k = X) w w' := by
  refine (zClose_any h.ss).mono ?_
  rintro e w' ⟨rfl, h1, h2⟩
  have hX : ∀ k, k = X → SG X o k := fun k hk => by
    cases o with
    | none => exact hk
    | some z => exact .inl hk
  exact ⟨rfl, h.step h1 h2 hX (fun k hk => .inl (hX k hk)), h2⟩
/-- What a store's calls may change is none of O, and no block of cells of other types. -/
structure StoreF (w : World) (O F : Nat → Prop) : Prop where
  off : ∀ b, O b → ¬ F b
  cells : ∀ b cs T p, w.heap[b]? = some (.cells cs T p) → T ≠ 73 → T ≠ 9 → ¬ F b
theorem LS.installF {w wr : World} {D i : Nat} {s : SP} {O : Nat → Prop} (h : LS w wr D i s O) (hi : i ≤ 1000) {vl : Value} {L : List Pr} (hr : RdG PE wr vl L) (hL : L.length ≤ 60) (hap : ∀ b, InB vl b → b < w.heap.size) (n : Int) :
    Calls Try.prog 12 #[.pointer (some ⟨D, 0, none⟩), .int .i64 n, vl] wr fun e w' => e = .returned (.int .i64 (if instOk s n L = true then 0 else 2)) ∧ LS w w' D (i + 1) (instP s n L) O ∧ ∃ F, StoreF wr O F ∧ Chg F wr w' ∧ ∀ b, F b → w.heap.size ≤ b := by
  obtain ⟨M, vk, ks, h1, h2, h3, h0⟩ := h
  refine (install_any h1.st hr (fun b hb hm => by have := h1.mine hm; have := hap b hb; omega) (by omega) (by omega) n).mono ?_
  rintro e w' ⟨he, vk', ks', h4, h5, h6, h7⟩
  refine ⟨he, ⟨M, vk', ks', h1.act h4 h6 h7, by omega, inst_last h3, fun b hb => mine_new (h0 b hb) h6.size h7⟩, Mine D M vk, ⟨fun b hb => (h0 b hb).2, fun b cs T p hb hT h9 hm => ?_⟩, h6, fun b hb => h1.mine hb⟩
  rcases hm with rfl | rfl | hm
  · exact cells_ne hb h1.st.d hT rfl
  · exact cells_map hb h1.st.mp.block rfl
  · obtain ⟨_, _, cur, hc⟩ := h1.st.kk.block hm
    exact cells_ne hb hc h9 rfl
theorem SesAt.store {w w' : World} {B X : Nat} {id : Int} {o : Option (Tb × Tx)} (h : SesAt w B X id o) {F : Nat → Prop} (hF : StoreF w (SG X o) F) (hc : Chg F w w') : SesAt w' B X id o := by
  refine h.chg hc (hF.cells X _ _ _ h.x (by decide) (by decide)) fun b t e => ?_
  have ht := h.tx b t e
  subst e
  refine ⟨hF.cells _ _ _ _ ht.d (by decide) (by decide), hF.off _ (.inr (.inr (.inl rfl))), hF.cells _ _ _ _ ht.buf.d (by decide) (by decide), hF.off _ (.inr (.inr (.inr (.inl rfl)))), fun k hk => ?_, fun y hy k hk => ?_⟩
  · obtain ⟨_, _, cur, hcc⟩ := ht.row.block hk
    exact hF.cells _ _ _ _ hcc (by decide) (by decide)
  · obtain ⟨_, _, cur, hcc⟩ := (ht.ps y hy).block hk
    exact hF.cells _ _ _ _ hcc (by decide) (by decide)
theorem Duo.install {w0 w : World} {D i : Nat} {s : SP} {X : Nat} {id : Int} {o : Option (Tb × Tx)} (h : Duo w0 w D i s X id o) (hi : i ≤ 1000) {vl : Value} {L : List Pr} (hr : RdG PE w vl L) (hL : L.length ≤ 60) (hap : ∀ b, InB vl b → b < w0.heap.size) (n : Int) :
    Calls Try.prog 12 #[.pointer (some ⟨D, 0, none⟩), .int .i64 n, vl] w fun e w' => e = .returned (.int .i64 (if instOk s n L = true then 0 else 2)) ∧ Duo w0 w' D (i + 1) (instP s n L) X id o ∧ ∃ F, StoreF w (SG X o) F ∧ Chg F w w' ∧ ∀ b, F b → w0.heap.size ≤ b := by
  refine (h.ls.installF hi hr hL hap n).mono ?_
  rintro e w' ⟨rfl, h1, F, h2, h3, h4⟩
  exact ⟨rfl, ⟨h1, h.ss.store h2 h3⟩, F, h2, h3, h4⟩
end Go.Proofs.Ytcicekggeampcaa
