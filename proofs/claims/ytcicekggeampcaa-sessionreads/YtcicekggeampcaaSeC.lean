/-
  package session: New, isMade, Open, Snap, Ops, act: what the calls do.
-/
import Derived.Test.YtcicekggeampcaaSeM
import Derived.Laws.LoneSync
namespace Go.Proofs.Ytcicekggeampcaa
open Go.RowKit
/-- Where a session's pointer leads. -/
def SPt : Option (Tb × Tx) → Value
  | none => .pointer none
  | some (b, _) => PT b.T
/-- The session at block X in memory. -/
structure SesAt (w : World) (B X : Nat) (id : Int) (o : Option (Tb × Tx)) : Prop where
  x : Blk w X 59 [.int .i64 id, SPt o]
  lo : B ≤ X
  id : 1 ≤ id ∧ id ≤ 8
  tx : ∀ b t, o = some (b, t) → TxAt w B b t
/-- The blocks that a session's acts may change. -/
def SG (X : Nat) : Option (Tb × Tx) → Nat → Prop
  | none, k => k = X
  | some (b, _), k => k = X ∨ b.G k
theorem SesAt.kept {w w' : World} {B X : Nat} {id : Int} {o : Option (Tb × Tx)} (h : SesAt w B X id o) (hb : Below w.heap.size w w') : SesAt w' B X id o := ⟨h.x.kept hb, h.lo, h.id, fun b t e => (h.tx b t e).kept hb⟩
theorem SesAt.chg {w w' : World} {B X : Nat} {id : Int} {o : Option (Tb × Tx)} (h : SesAt w B X id o) {F : Nat → Prop} (hc : Chg F w w') (hX : ¬ F X) (hF : ∀ b t, o = some (b, t) → Apart w b F) : SesAt w' B X id o := ⟨h.x.chg hc hX, h.lo, h.id, fun b t e => (h.tx b t e).chg hc (hF b t e)⟩
theorem SesAt.ge {w : World} {B X : Nat} {id : Int} {o : Option (Tb × Tx)} (h : SesAt w B X id o) {k : Nat} (hk : SG X o k) : B ≤ k := by
  cases o with
  | none => cases hk; exact h.lo
  | some z =>
    obtain ⟨b, t⟩ := z
    rcases hk with rfl | hk
    · exact h.lo
    · exact (h.tx b t rfl).ge hk
/-- A session that no call made. -/
def UnS (w : World) (v : Value) : Prop := v = .pointer none ∨ ∃ X, v = PT X ∧ Blk w X 59 [.int .i64 0, .pointer none]
theorem UnS.kept {w w' : World} {v : Value} (h : UnS w v) (hb : Below w.heap.size w w') : UnS w' v := by
  rcases h with h | ⟨X, h1, h2⟩
  · exact .inl h
  · exact .inr ⟨X, h1, h2.kept hb⟩
set_option maxRecDepth 100000 in
theorem zNew_any (w : World) (id : Int) (h1 : 1 ≤ id) (h8 : id ≤ 8) : Calls Try.prog 9 #[.int .i64 id] w fun e w' => ∃ X, e = .returned (PT X) ∧ w.heap.size = X ∧ SesAt w' w.heap.size X id none ∧ Below w.heap.size w w' := by
  have q1 : ¬ id < 1 := by omega
  have q2 : ¬ 8 < id := by omega
  go_enter Try.func9, Try.ntmps9
  go_wp2
  go_ret
  exact ⟨_, rfl, rfl, ⟨Blk.new w 59 [.int .i64 id, .pointer none], Nat.le_refl _, ⟨h1, h8⟩, fun _ _ e => by cases e⟩, (Below.refl _ _).alloc (Nat.le_refl _) _⟩
set_option maxRecDepth 100000 in
theorem zNew_no (w : World) (id : Int) (h : id < 1 ∨ 8 < id) : Calls Try.prog 9 #[.int .i64 id] w fun e w' => e = .returned (.pointer none) ∧ w' = w := by
  by_cases q1 : id < 1
  · go_enter Try.func9, Try.ntmps9
    go_wp2
    go_ret
    exact ⟨rfl, rfl⟩
  · have q2 : 8 < id := by omega
    go_enter Try.func9, Try.ntmps9
    go_wp2
    go_ret
    exact ⟨rfl, rfl⟩
set_option maxRecDepth 100000 in
theorem zMade_any {w : World} {X : Nat} {id : Int} {p : Value} (hB : Blk w X 59 [.int .i64 id, p]) (h1 : 1 ≤ id) : Calls Try.prog 35 #[PT X] w fun e w' => e = .returned (.bool true) ∧ w' = w := by
  have c0 := hB.cell (j := 0) rfl
  clear hB
  have q1 : 0 < id := by omega
  go_enter Try.func35, Try.ntmps35
  go_wp2
  go_ret
  exact ⟨rfl, rfl⟩
set_option maxRecDepth 100000 in
theorem zMade_un {w : World} {v : Value} (h : UnS w v) : Calls Try.prog 35 #[v] w fun e w' => e = .returned (.bool false) ∧ w' = w := by
  rcases h with rfl | ⟨X, rfl, hB⟩
  · go_enter Try.func35, Try.ntmps35
    go_wp2
    go_ret
    exact ⟨rfl, rfl⟩
  · have c0 := hB.cell (j := 0) rfl
    clear hB
    go_enter Try.func35, Try.ntmps35
    go_wp2
    go_ret
    exact ⟨rfl, rfl⟩
set_option maxRecDepth 100000 in
theorem zOpen_some {w : World} {X T : Nat} {id : Int} (hB : Blk w X 59 [.int .i64 id, PT T]) : Calls Try.prog 24 #[PT X] w fun e w' => e = .returned (.bool true) ∧ w' = w := by
  have c1 := hB.cell (j := 1) rfl
  clear hB
  go_enter Try.func24, Try.ntmps24
  go_wp2
  go_ret
  exact ⟨rfl, rfl⟩
set_option maxRecDepth 100000 in
theorem zOpen_none {w : World} {X : Nat} {id : Int} (hB : Blk w X 59 [.int .i64 id, .pointer none]) : Calls Try.prog 24 #[PT X] w fun e w' => e = .returned (.bool false) ∧ w' = w := by
  have c1 := hB.cell (j := 1) rfl
  clear hB
  go_enter Try.func24, Try.ntmps24
  go_wp2
  go_ret
  exact ⟨rfl, rfl⟩
set_option maxRecDepth 100000 in
theorem zOpen_un {w : World} {v : Value} (h : UnS w v) : Calls Try.prog 24 #[v] w fun e w' => e = .returned (.bool false) ∧ w' = w := by
  rcases h with rfl | ⟨X, rfl, hB⟩
  · go_enter Try.func24, Try.ntmps24
    go_wp2
    go_ret
    exact ⟨rfl, rfl⟩
  · exact zOpen_none hB
set_option maxRecDepth 100000 in
theorem load64_any (a : Addr) (w : World) (n : Int) (hc : w.cell? a = some (.int .i64 n)) : Calls Try.prog 45 #[.pointer (some a)] w fun e w' => e = .returned (.int .i64 n) ∧ w' = w := by
  have hl := run_call_load (P := Try.prog) Try.func62 (by kernel_rfl) (by kernel_rfl) (by kernel_rfl) .i64 (by kernel_rfl) (w := w) (a := a) (x := n) hc
  go_enter Try.func45, Try.ntmps45
  go_wp2
  go_ret
  exact ⟨rfl, rfl⟩
set_option maxRecDepth 100000 in
theorem add64_any (a : Addr) (w : World) (n : Int) (hn : 0 ≤ n ∧ n ≤ 1000) (hc : w.cell? a = some (.int .i64 n)) (hz : w.frozen? a = false) : Calls Try.prog 60 #[.pointer (some a), .int .i64 1] w fun e w' => e = .returned (.int .i64 (n + 1)) ∧ w' = w.setCell a (.int .i64 (n + 1)) := by
  have hadd := run_call_add (P := Try.prog) Try.func79 (by kernel_rfl) (by kernel_rfl) (by kernel_rfl) .i64 (by kernel_rfl) (y := 1) (s := n + 1) hc hz (by
    have := wr64 (x := n + 1) (by omega) (by omega)
    simp [go_sem]
    omega)
  go_enter Try.func60, Try.ntmps60
  go_wp2
  go_ret
  exact ⟨rfl, rfl⟩
/-- Snap, Ops, of a session. -/
def snapP : Option (Tb × Tx) → Int
  | none => 0
  | some (_, t) => t.snap
def opsP : Option (Tb × Tx) → Nat
  | none => 0
  | some (_, t) => t.ops
set_option maxRecDepth 100000 in
theorem zOpen_any {w : World} {B X : Nat} {id : Int} {o : Option (Tb × Tx)} (h : SesAt w B X id o) : Calls Try.prog 24 #[PT X] w fun e w' => e = .returned (.bool o.isSome) ∧ w' = w := by
  cases o with
  | none => exact zOpen_none h.x
  | some z => exact zOpen_some h.x
set_option maxRecDepth 100000 in
theorem zSnap_any {w : World} {B X : Nat} {id : Int} {o : Option (Tb × Tx)} (h : SesAt w B X id o) : Calls Try.prog 23 #[PT X] w fun e w' => e = .returned (.int .i64 (snapP o)) ∧ w' = w := by
  have CO := hide (zOpen_any h)
  cases o with
  | none =>
    clear h
    go_enter Try.func23, Try.ntmps23
    go_wp2_with fail
    refine CO.out.mono ?_
    rintro e w_ ⟨rfl, hw⟩
    subst w_
    go_wp2_with fail
    go_ret
    exact ⟨rfl, rfl⟩
  | some z =>
    obtain ⟨b, t⟩ := z
    have c1 := h.x.cell (j := 1) rfl
    have d0 := (h.tx b t rfl).d.cell (j := 0) rfl
    simp only [SPt] at c1
    clear h
    go_enter Try.func23, Try.ntmps23
    go_wp2_with fail
    refine CO.out.mono ?_
    rintro e w_ ⟨rfl, hw⟩
    subst w_
    go_wp2_with fail
    go_ret
    exact ⟨rfl, rfl⟩
set_option maxRecDepth 100000 in
theorem zOps_any {w : World} {B X : Nat} {id : Int} {o : Option (Tb × Tx)} (h : SesAt w B X id o) : Calls Try.prog 19 #[PT X] w fun e w' => e = .returned (.int .i64 (opsP o)) ∧ w' = w := by
  have CO := hide (zOpen_any h)
  cases o with
  | none =>
    clear h
    go_enter Try.func19, Try.ntmps19
    go_wp2_with fail
    refine CO.out.mono ?_
    rintro e w_ ⟨rfl, hw⟩
    subst w_
    go_wp2_with fail
    go_ret
    exact ⟨rfl, rfl⟩
  | some z =>
    obtain ⟨b, t⟩ := z
    have c1 := h.x.cell (j := 1) rfl
    have d5 := (h.tx b t rfl).d.cell (j := 5) rfl
    have CL := hide (load64_any ⟨b.T, 5, none⟩ w t.ops d5)
    have ho := (h.tx b t rfl).ops
    simp only [SPt] at c1
    have hw : IntKind.i64.wrap (t.ops : Int) = t.ops := wr64 (by omega) (by omega)
    clear h
    go_enter Try.func19, Try.ntmps19
    go_wp2_with fail
    refine CO.out.mono ?_
    rintro e w_ ⟨rfl, hw⟩
    subst w_
    go_wp2_with fail
    refine CL.out.mono ?_
    rintro e w_ ⟨rfl, hw⟩
    subst w_
    go_wp2_with fail
    go_ret
    exact ⟨rfl, rfl⟩
set_option maxRecDepth 100000 in
theorem zClose_any {w : World} {B X : Nat} {id : Int} {o : Option (Tb × Tx)} (h : SesAt w B X id o) : Calls Try.prog 26 #[PT X] w fun e w' => e = .returned (.bool o.isSome) ∧ SesAt w' B X id none ∧ Chg (fun k => k = X) w w' := by
  have H := hide h
  have CO := hide (zOpen_any h)
  cases o with
  | none =>
    clear h
    go_enter Try.func26, Try.ntmps26
    go_wp2_with fail
    refine CO.out.mono ?_
    rintro e w_ ⟨rfl, hw⟩
    subst w_
    go_wp2_with fail
    go_ret
    exact ⟨rfl, H.out, Chg.refl _ _⟩
  | some z =>
    obtain ⟨b, t⟩ := z
    have c1 := h.x.cell (j := 1) rfl
    have z1 := h.x.frozen 1
    simp only [SPt] at c1
    clear h
    go_enter Try.func26, Try.ntmps26
    go_wp2_with fail
    refine CO.out.mono ?_
    rintro e w_ ⟨rfl, hw⟩
    subst w_
    go_wp2_with fail
    go_ret
    exact ⟨rfl, ⟨H.out.x.set 1 _, H.out.lo, H.out.id, fun _ _ e => by cases e⟩, Chg.setCell (F := fun k => k = X) w rfl 1 _⟩
/-- A transaction with one act more. -/
def Tx.more (t : Tx) : Tx := { t with ops := t.ops + 1 }
set_option maxHeartbeats 1000000 in
set_option maxRecDepth 100000 in
theorem zAct_any {w : World} {B X : Nat} {id : Int} {b : Tb} {t : Tx} (h : SesAt w B X id (some (b, t))) :
    Calls Try.prog 41 #[PT X] w fun e w' => (64 ≤ t.ops ∧ e = .returned (.int .i64 13) ∧ w' = w) ∨ (t.ops < 64 ∧ e = .returned (.int .i64 0) ∧ SesAt w' B X id (some (b, t.more)) ∧ Chg (fun k => k = b.T) w w') := by
  have H := hide h
  have CM := hide (zMade_any h.x h.id.1)
  have CO := hide (zOpen_any h)
  have CP := hide (zOps_any h)
  have c1 := h.x.cell (j := 1) rfl
  have d5 := (h.tx b t rfl).d.cell (j := 5) rfl
  have z5 := (h.tx b t rfl).d.frozen 5
  have ho := (h.tx b t rfl).ops
  have CA := hide (add64_any ⟨b.T, 5, none⟩ w t.ops ⟨by omega, by omega⟩ d5 z5)
  simp only [SPt] at c1
  simp only [opsP] at CP
  clear h d5 z5
  obtain ⟨n, HN⟩ : ∃ n, Hid (t.ops = n) := ⟨_, rfl⟩
  rw [HN.out] at CA CP ho ⊢
  go_enter Try.func41, Try.ntmps41
  go_wp2_with fail
  refine CM.out.mono ?_
  rintro e w_ ⟨rfl, hw⟩
  subst w_
  go_wp2_with fail
  refine CO.out.mono ?_
  rintro e w_ ⟨rfl, hw⟩
  subst w_
  go_wp2_with fail
  refine CP.out.mono ?_
  rintro e w_ ⟨rfl, hw⟩
  subst w_
  by_cases h1 : 64 ≤ n
  · have q1 : (64 : Int) ≤ (n : Int) := by omega
    go_wp2_with fail
    go_ret
    exact .inl ⟨h1, rfl, rfl⟩
  · have q1 : ¬ (64 : Int) ≤ (n : Int) := by omega
    go_wp2_with fail
    refine CA.out.mono ?_
    rintro e w_ ⟨rfl, hw⟩
    subst w_
    go_wp2_with fail
    go_ret
    have hc : Chg (fun k => k = b.T) w (w.setCell ⟨b.T, 5, none⟩ (.int .i64 ((n : Int) + 1))) := Chg.setCell (F := fun k => k = b.T) w rfl 5 _
    have hx := H.out.tx b t rfl
    refine .inr ⟨by omega, rfl, ⟨H.out.x.chg hc ?_, H.out.lo, H.out.id, ?_⟩, hc⟩
    · exact cells_ne H.out.x hx.d (by decide)
    · rintro b' t' e
      cases e
      refine hx.setT hc ?_ rfl rfl (by show t.ops + 1 ≤ 64; rw [HN.out]; omega) (by show t.ops ≤ t.ops + 1; omega)
      have h5 := hx.d.set 5 (.int .i64 ((n : Int) + 1))
      have e : (TC b t).set 5 (.int .i64 ((n : Int) + 1)) = TC b t.more := by
        rw [← HN.out]
        unfold TC Tx.more
        simp
      rw [e] at h5
      exact h5
end Go.Proofs.Ytcicekggeampcaa
