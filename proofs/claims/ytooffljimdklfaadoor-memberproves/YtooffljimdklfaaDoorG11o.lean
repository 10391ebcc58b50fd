/-
  Texts that ride together: TrO TrOb TrR0 TrR.
-/
import Derived.Test.YtooffljimdklfaaDoorG11w
import Derived.Defers
import Derived.Laws.Pointers
import Derived.Laws.LoneSync
import Derived.RegionTactic
import Derived.RegionCalls
import Derived.ChangeAlike
/-
  sync.Once over a node, ONE goroutine: Do, where it was not done and where it was.
-/
namespace Go.Proofs.YtooffljimdklfaaDoor
open Go.RowKit
theorem disable (w : World) : (callFunc 91 #[]).run Tryd.prog w = .ok (.value (.tuple #[])) w := run_call_mark0 Tryd.func91 (by kernel_rfl) (by kernel_rfl) (by kernel_rfl) .disable (by kernel_rfl) w
theorem enable (w : World) : (callFunc 93 #[]).run Tryd.prog w = .ok (.value (.tuple #[])) w := run_call_mark0 Tryd.func93 (by kernel_rfl) (by kernel_rfl) (by kernel_rfl) .enable (by kernel_rfl) w
theorem acquire (a : Addr) (w : World) : (callFunc 94 #[.pointer (some a)]).run Tryd.prog w = .ok (.value (.tuple #[])) w := run_call_marked Tryd.func94 (by kernel_rfl) (by kernel_rfl) (by kernel_rfl) .acquire (by kernel_rfl) a w
theorem releaseMerge (a : Addr) (w : World) : (callFunc 96 #[.pointer (some a)]).run Tryd.prog w = .ok (.value (.tuple #[])) w := run_call_marked Tryd.func96 (by kernel_rfl) (by kernel_rfl) (by kernel_rfl) .releaseMerge (by kernel_rfl) a w
set_option maxRecDepth 100000 in
set_option maxHeartbeats 1600000 in
theorem store_deferred (a : Addr) (x : Value) (u : FrameMode) (w : World) (hc : w.cell? a = some x) (hz : w.frozen? a = false) :
    CallsD Tryd.prog 80 #[.pointer (some a), .bool true] u w fun e u' w' => u' = u ∧ (e = .returned (.tuple #[]) ∧ w' = w.drew.setCell a (.int .u32 1)) := by
  have hc' : w.drew.cell? a = some x := by go_simp
  have hz' : w.drew.frozen? a = false := by go_simp
  have hst := run_call_store (P := Tryd.prog) Tryd.func87 (by kernel_rfl) (by kernel_rfl) (by kernel_rfl) (by kernel_rfl) (k := .u32) (y := 1) hc' hz'
  go_enter_d Tryd.func80, Tryd.ntmps80
  go_wp2
  go_region_calls
  all_goals (go_end0; exact ⟨rfl, rfl⟩)
set_option maxRecDepth 100000 in
set_option maxHeartbeats 1600000 in
theorem unlock_deferred (a : Addr) (u : FrameMode) (w : World) (hc : w.cell? a = some (.int .i32 1)) (hz : w.frozen? a = false) :
    CallsD Tryd.prog 79 #[.pointer (some a)] u w fun e u' w' => u' = u ∧ (e = .returned (.tuple #[]) ∧ w' = w.setCell a (.int .i32 0)) := by
  have hd := disable
  have he := enable
  have hr := releaseMerge
  have hadd := run_call_add (P := Tryd.prog) Tryd.func97 (by kernel_rfl) (by kernel_rfl) (by kernel_rfl) .i32 (by kernel_rfl) (y := -1) (s := 0) hc hz (by simp [go_sem]; rfl)
  have hcv := run_convert_to_unsafe (P := Tryd.prog) (src := 156) (dst := 160) Tryd.underlying156 Tryd.underlying160 (by kernel_rfl) hc
  go_enter_d Tryd.func79, Tryd.ntmps79
  go_wp2
  go_end0
  go_wp2
  go_end0
  exact ⟨rfl, rfl⟩
set_option maxRecDepth 100000 in
set_option maxHeartbeats 1600000 in
theorem lock_free (a : Addr) (w : World) (hc : w.cell? a = some (.int .i32 0)) (hz : w.frozen? a = false) :
    Calls Tryd.prog 78 #[.pointer (some a)] w fun e w' => e = .returned (.tuple #[]) ∧ w' = w.setCell a (.int .i32 1) := by
  have hd := disable
  have he := enable
  have ha := acquire
  have hcas := run_call_cas_hit (P := Tryd.prog) Tryd.func92 (by kernel_rfl) (by kernel_rfl) (by kernel_rfl) .i32 (by kernel_rfl) (y := 1) hc hz
  have hc' : (w.setCell a (.int .i32 1)).cell? a = some (.int .i32 1) := World.cell?_setCell_same w a _ hc
  have hcv := run_convert_to_unsafe (P := Tryd.prog) (src := 156) (dst := 160) Tryd.underlying156 Tryd.underlying160 (by kernel_rfl) hc'
  go_enter Tryd.func78, Tryd.ntmps78
  go_wp2
  first | go_end0 | (simp only [Exit.inBlock, Exit.then]; refine bodyPost_ret (results_none rfl _ _ _) rfl ?_) | refine bodyPost_ret (results_none rfl _ _ _) rfl ?_
  go_wp2
  go_end0
  exact ⟨rfl, rfl⟩
#print axioms lock_free
set_option maxRecDepth 100000 in
set_option maxHeartbeats 1600000 in
theorem load0_any (a : Addr) (w : World) (hc : w.cell? a = some (.int .u32 0)) : Calls Tryd.prog 69 #[.pointer (some a)] w fun e w' => e = .returned (.bool false) ∧ w' = w := by
  have hl := run_call_load (P := Tryd.prog) Tryd.func77 (by kernel_rfl) (by kernel_rfl) (by kernel_rfl) .u32 (by kernel_rfl) (w := w) (a := a) (x := 0) hc
  go_enter Tryd.func69, Tryd.ntmps69
  go_wp2
  go_ret
  exact ⟨rfl, rfl⟩
set_option maxRecDepth 100000 in
set_option maxHeartbeats 1600000 in
theorem load1_any (a : Addr) (w : World) (hc : w.cell? a = some (.int .u32 1)) : Calls Tryd.prog 69 #[.pointer (some a)] w fun e w' => e = .returned (.bool true) ∧ w' = w := by
  have hl := run_call_load (P := Tryd.prog) Tryd.func77 (by kernel_rfl) (by kernel_rfl) (by kernel_rfl) .u32 (by kernel_rfl) (w := w) (a := a) (x := 1) hc
  go_enter Tryd.func69, Tryd.ntmps69
  go_wp2
  go_ret
  exact ⟨rfl, rfl⟩
end Go.Proofs.YtooffljimdklfaaDoor

/-
  sync.Once over a node, ONE goroutine: doSlow and Do.
-/
namespace Go.Proofs.YtooffljimdklfaaDoor
open Go.RowKit
set_option maxRecDepth 100000 in
set_option maxHeartbeats 1600000 in
theorem slow_any (b pl : Nat) {i : Int} {k v : Hs} {l r : Value} {h : Hs} (w : World) (hB : Blk w b 101 (NC i k v l r 0 0 h)) (Φ : Hs → World → Prop)
    (CF : Calls Tryd.prog 57 #[PT pl] (w.setCell ⟨b, 68, none⟩ (.int .i32 1)) fun e w' => e = .returned (.tuple #[]) ∧ ∃ h', Blk w' b 101 (NC i k v l r 0 1 h') ∧ Φ h' w') :
    Calls Tryd.prog 70 #[.pointer (some ⟨b, 67, none⟩), .func (.func 57) #[] #[PT pl]] w fun e w' => e = .returned (.tuple #[]) ∧ ∃ h' w1, Blk w1 b 101 (NC i k v l r 0 1 h') ∧ Φ h' w1 ∧ w' = (w1.drew.setCell ⟨b, 67, none⟩ (.int .u32 1)).setCell ⟨b, 68, none⟩ (.int .i32 0) := by
  have hB1 : Blk (w.setCell ⟨b, 68, none⟩ (.int .i32 1)) b 101 (NC i k v l r 0 1 h) := by have := hB.set 68 (.int .i32 1); rwa [NC.setLock] at this
  have hnot : ∀ (x : Bool) (w : World), (Op.unary .not (.bool x)).run Tryd.prog w = .ok (.bool (!x)) w := fun _ _ => rfl
  have HB := hide hB
  have HB1 := hide hB1
  have HCF := hide CF
  clear hB hB1 CF
  go_enter_defers Tryd.func70, Tryd.ntmps70
  go_wp2_with (first
    | (go_at_call 78; refine (lock_free ⟨b, 68, none⟩ _ (NC.lock HB.out) (HB.out.frozen _)).mono ?_; rintro e w' ⟨rfl, rfl⟩)
    | (go_at_call 69; refine (load0_any ⟨b, 67, none⟩ _ (NC.done HB1.out)).mono ?_; rintro e w' ⟨rfl, rfl⟩)
    | fail)
  refine HCF.out.mono ?_
  rintro e w1 ⟨rfl, h', hB2, hΦ⟩
  have HB2 := hide hB2
  have HΦ := hide hΦ
  clear hB2 hΦ
  go_wp2
  refine leaves_cons (f := 80) (args := #[.pointer (some ⟨b, 67, none⟩), .bool true]) (by simp) (by simp [go_sem]) ?_
  refine (store_deferred ⟨b, 67, none⟩ (.int .u32 0) .returning _ (NC.done HB2.out) (HB2.out.frozen _)).mono ?_
  rintro e u' w'' ⟨rfl, rfl, rfl⟩
  have HB3 : Hid (Blk (w1.drew.setCell ⟨b, 67, none⟩ (.int .u32 1)) b 101 (NC i k v l r 1 1 h')) := (show Blk _ _ _ _ by have := (HB2.out.drew).set 67 (.int .u32 1); rwa [NC.setDone] at this)
  refine leaves_cons (f := 79) (args := #[.pointer (some ⟨b, 68, none⟩)]) (by simp [settle]) (by simp [go_sem]) ?_
  refine (unlock_deferred ⟨b, 68, none⟩ _ _ (NC.lock HB3.out) (HB3.out.frozen _)).mono ?_
  rintro e u' w'' ⟨rfl, rfl, rfl⟩
  have hfin : ∃ h' w2, Blk w2 b 101 (NC i k v l r 0 1 h') ∧ Φ h' w2 ∧ (w1.drew.setCell ⟨b, 67, none⟩ (.int .u32 1)).setCell ⟨b, 68, none⟩ (.int .i32 0) = (w2.drew.setCell ⟨b, 67, none⟩ (.int .u32 1)).setCell ⟨b, 68, none⟩ (.int .i32 0) := ⟨h', w1, HB2.out, HΦ.out, rfl⟩
  simp only [Leaves, settle, results, Tryd.results70]
  simpa using hfin
set_option maxRecDepth 100000 in
set_option maxHeartbeats 1600000 in
/-- (*sync.Once).Do, not yet done. -/
theorem do_first (b pl : Nat) {i : Int} {k v : Hs} {l r : Value} {h : Hs} (w : World) (hB : Blk w b 101 (NC i k v l r 0 0 h)) (Φ : Hs → World → Prop)
    (CF : Calls Tryd.prog 57 #[PT pl] (w.setCell ⟨b, 68, none⟩ (.int .i32 1)) fun e w' => e = .returned (.tuple #[]) ∧ ∃ h', Blk w' b 101 (NC i k v l r 0 1 h') ∧ Φ h' w') :
    Calls Tryd.prog 56 #[.pointer (some ⟨b, 67, none⟩), .func (.func 57) #[] #[PT pl]] w fun e w' => e = .returned (.tuple #[]) ∧ ∃ h' w1, Blk w1 b 101 (NC i k v l r 0 1 h') ∧ Φ h' w1 ∧ w' = (w1.drew.setCell ⟨b, 67, none⟩ (.int .u32 1)).setCell ⟨b, 68, none⟩ (.int .i32 0) := by
  have HS := hide (slow_any b pl w hB Φ CF)
  have c0 := NC.done hB
  clear hB CF
  go_enter Tryd.func56, Tryd.ntmps56
  go_wp2_with (first
    | (go_at_call 69; refine (load0_any ⟨b, 67, none⟩ _ c0).mono ?_; rintro e w' ⟨rfl, rfl⟩)
    | fail)
  refine HS.out.mono ?_
  rintro e w2 ⟨rfl, h2⟩
  have H2 := hide h2
  clear h2
  go_wp2
  go_end0
  exact ⟨rfl, H2.out⟩
set_option maxRecDepth 100000 in
set_option maxHeartbeats 1600000 in
/-- (*sync.Once).Do, done already. -/
theorem do_done (b : Nat) (fv : Value) {i : Int} {k v : Hs} {l r : Value} {m : Int} {h : Hs} (w : World) (hB : Blk w b 101 (NC i k v l r 1 m h)) :
    Calls Tryd.prog 56 #[.pointer (some ⟨b, 67, none⟩), fv] w fun e w' => e = .returned (.tuple #[]) ∧ w' = w := by
  have c0 := NC.done hB
  clear hB
  go_enter Tryd.func56, Tryd.ntmps56
  go_wp2_with (first
    | (go_at_call 69; refine (load1_any ⟨b, 67, none⟩ _ c0).mono ?_; rintro e w' ⟨rfl, rfl⟩)
    | fail)
  go_end0
  exact ⟨rfl, rfl⟩
#print axioms do_first
end Go.Proofs.YtooffljimdklfaaDoor

/-
  What a node's root may change; laws for regions in which roots are asked for.
-/
namespace Go.Proofs.YtooffljimdklfaaDoor
open Go.RowKit
/-- Nodes below b may have their hash now; from b on all is as it was. -/
structure Tb (B0 b : Nat) (w w' : World) : Prop where
  tch : Tch B0 w w'
  high : ∀ k, b ≤ k → k < w.heap.size → w'.heap[k]? = w.heap[k]?
theorem Tb.of_below {B0 b : Nat} {w w' : World} (h : Below w.heap.size w w') : Tb B0 b w w' := ⟨.of_below h, fun k _ hk => h.block k hk⟩
theorem Tb.refl (B0 b : Nat) (w : World) : Tb B0 b w w := .of_below (Below.refl _ _)
theorem Tb.trans {B0 b : Nat} {x y z : World} (h : Tb B0 b x y) (k : Tb B0 b y z) : Tb B0 b x z :=
  ⟨h.tch.trans k.tch, fun i h1 h2 => (k.high i h1 (Nat.lt_of_lt_of_le h2 h.tch.size)).trans (h.high i h1 h2)⟩
theorem Tb.ok (B0 b : Nat) : RelOk (Tb B0 b) := ⟨Tb.refl B0 b, Tb.trans, Tb.of_below⟩
theorem Tb.mono {B0 b c : Nat} {w w' : World} (h : Tb B0 b w w') (hc : b ≤ c) : Tb B0 c w w' := ⟨h.tch, fun k h1 h2 => h.high k (by omega) h2⟩
theorem Blk.tb {B0 b : Nat} {w w' : World} {c : Nat} {T : TypeId} {cs : List Value} (h : Blk w c T cs) (ht : Tb B0 b w w') (hc : b ≤ c) : Blk w' c T cs := (ht.high c hc h.lt).trans h
/-- A node hangs on blocks up to its own alone. -/
theorem Nd.low {B0 : Nat} {w w' : World} : ∀ {b : Nat} {L : List It}, (∀ k, k ≤ b → w'.heap[k]? = w.heap[k]?) → Nd B0 w b L → Nd B0 w' b L := by
  intro b
  induction b using Nat.strongRecOn with
  | _ b ih =>
    intro L h hn
    exact Nd.iff.2 ((NdStep.mono (Nd.iff.1 hn) (fun c M hc hx => ih c hc (fun k hk => h k (by omega)) hx)).blkEq (h b (Nat.le_refl _)))
/-- A new block written to. -/
theorem Tb.but {B0 b c : Nat} {w w1 w' : World} (h : Tb B0 b w w1) (hb : But c w1 w') (hc : w.heap.size ≤ c) : Tb B0 b w w' := by
  refine ⟨⟨hb.os.trans h.tch.os, hb.tape.trans h.tch.tape, hb.output.trans h.tch.output, Nat.le_trans h.tch.size hb.size, fun k hk => ?_⟩, fun k h1 h2 => ?_⟩
  · have hk1 : k < w1.heap.size := Nat.lt_of_lt_of_le hk h.tch.size
    have e := hb.block k hk1 (by omega)
    rcases h.tch.block k hk with e1 | ⟨M, a1, a2⟩
    · exact .inl (e.trans e1)
    · exact .inr ⟨M, a1, a2.low (fun j hj => hb.block j (by omega) (by omega))⟩
  · exact (hb.block k (Nat.lt_of_lt_of_le h2 h.tch.size) (by omega)).trans (h.high k h1 h2)
/-- A node's hash is laid, those of the nodes below it ahead. -/
theorem Tb.laid {B0 b : Nat} {w wl w3 w2 : World} {L : List It} {i : Nat} {k v : Hs} {l r : Value} {h : Hs} (hn : Nd B0 w b L) (hB : Blk w b 101 (NC i k v l r 0 0 h)) (h1 : But b w wl) (h2 : Tb B0 b wl w3) (h3 : But b w3 w2) (hB2 : Blk w2 b 101 (NC i k v l r 1 0 (rootP L))) :
    Tb B0 (b + 1) w w2 ∧ Nd B0 w2 b L := by
  have s1 := h1.size
  have s2 := h2.tch.size
  have hb := hn.lt
  have hdown : ∀ {c M}, c < b → Nd B0 w c M → Nd B0 w2 c M := fun {c M} hc hx => by
    have a1 : Nd B0 wl c M := hx.low (fun j hj => h1.block j (by omega) (by omega))
    have a2 := h2.tch.nd a1
    exact a2.low (fun j hj => h3.block j (by omega) (by omega))
  have hnew : Nd B0 w2 b L := by
    obtain ⟨h0, i', k', v', l', r', d', h', hB', hd, hx⟩ := Nd.iff.1 hn
    obtain ⟨hi, rfl, rfl, rfl, rfl, _⟩ := NC_inj (hB.inj hB').2
    obtain rfl : i = i' := by exact_mod_cast hi
    refine Nd.iff.2 ⟨h0, i, k, v, l, r, 1, rootP L, hB2, .inr ⟨rfl, rfl⟩, ?_⟩
    rcases hx with hx | ⟨A, B, bl, br, hF, hk, hl, hr, el, er, hA, hBb⟩
    · exact .inl hx
    · exact .inr ⟨A, B, bl, br, hF, hk, hl, hr, el, er, hdown hl hA, hdown hr hBb⟩
  refine ⟨⟨⟨h3.os.trans (h2.tch.os.trans h1.os), h3.tape.trans (h2.tch.tape.trans h1.tape), h3.output.trans (h2.tch.output.trans h1.output), Nat.le_trans s1 (Nat.le_trans s2 h3.size), fun c hc => ?_⟩, fun c h4 h5 => ?_⟩, hnew⟩
  · rcases Nat.lt_trichotomy c b with hcb | hcb | hcb
    · have e1 := h1.block c hc (by omega)
      have e3 := h3.block c (by omega) (by omega)
      rcases h2.tch.block c (by omega) with e2 | ⟨M, a1, a2⟩
      · exact .inl (e3.trans (e2.trans e1))
      · exact .inr ⟨M, a1.low (fun j hj => (h1.block j (by omega) (by omega)).symm), a2.low (fun j hj => h3.block j (by omega) (by omega))⟩
    · subst hcb; exact .inr ⟨L, hn, hnew⟩
    · exact .inl ((h3.block c (by omega) (by omega)).trans ((h2.high c (by omega) (by omega)).trans (h1.block c hc (by omega))))
  · exact (h3.block c (by omega) (by omega)).trans ((h2.high c (by omega) (by omega)).trans (h1.block c h5 (by omega)))
section
variable {R : World → World → Prop}
theorem wp_load_rowR (hR : RelOk R) {P : Program} {o : Oper} {a : Act} {w : World} {S : World → Value → Prop} {Q : Exit → Act → World → Prop} (ty : TypeId) (x : Operand) (ho : o.op = .load ty x) (b off : Nat) (hx : a.eval x = .pointer (some ⟨b, off, none⟩))
    (cs : List Value) (d : TypeDesc) (hc : w.rangeAt b off cs) (hu : P.underlying ty = some d) (hd : d.isRow = true) (hi : (P.info? ty).map (·.size) = some cs.length) (hS : S w (.agg cs.toArray)) : o.wp P a w (fun a' w' => ∃ v, a' = a.put o.dst v ∧ S w' v ∧ R w w') Q := by
  refine wp_valueR hR _ ?_ hS
  simp only [execOp, ho, hx, Instr.loadAt, Instr.sureAddr, Sem.run_bind, Sem.run_pure, Result.andThen_ok, run_loadVar_mid w b off ty cs d hc hu hd hi]
theorem wp_growR (hR : RelOk R) {P : Program} {o : Oper} {a : Act} {w : World} {S : World → Value → Prop} {Q : Exit → Act → World → Prop} (v : Value) (w1 : World) (hrun : (execOp a.eval o).run P w = .ok (.value v) w1) (hg : Gr w w1) (hS : S w1 v) :
    o.wp P a w (fun a' w' => ∃ v, a' = a.put o.dst v ∧ S w' v ∧ R w w') Q := by
  unfold Oper.wp
  rw [hrun]
  exact ⟨v, rfl, hS, hR.grown hg⟩
end
#print axioms Tb.laid
end Go.Proofs.YtooffljimdklfaaDoor

/-
  (*node).root: what the call does.
-/
namespace Go.Proofs.YtooffljimdklfaaDoor
open Go.RowKit
/-- What the closure leaves. -/
def Laid (B0 b : Nat) (L : List It) (wl : World) (h : Hs) (w' : World) : Prop := h = rootP L ∧ ∃ w3, Tb B0 b wl w3 ∧ But b w3 w'
/-- What root does. -/
def RootOk (B0 b : Nat) : Prop := ∀ (L : List It) (w : World), Nd B0 w b L → Tabs w → B0 ≤ w.heap.size → Calls Tryd.prog 43 #[PT b] w fun e w' => e = .returned (HV (rootP L)) ∧ Tb B0 (b + 1) w w'
set_option maxHeartbeats 4000000 in
set_option maxRecDepth 100000 in
theorem root1_item {B0 b pl : Nat} {i : Nat} {k v : Hs} {l r : Value} {h : Hs} {wl : World} (hi : i = 256) (hD : Blk wl b 101 (NC i k v l r 0 1 h)) (hP : Blk wl pl 58 [PT b]) (hT : Tabs wl) :
    Calls Tryd.prog 57 #[PT pl] wl fun e w' => e = .returned (.tuple #[]) ∧ ∃ h', Blk w' b 101 (NC i k v l r 0 1 h') ∧ Laid B0 b [(k, v)] wl h' w' := by
  have HROOT : Hid (rootP [(k, v)] = itH k v) := (show _ = _ from rfl)
  have DL := hide hD
  have BL := hide hP
  have TL := hide hT
  have CI := hide (nisItem_any hD)
  rw [show decide ((i : Int) = 256) = true by simp [hi]] at CI
  have c0 := hP.cell (j := 0) rfl
  clear hD hP hT hi
  go_enter Tryd.func57, Tryd.ntmps57
  go_upto_region 1 with (first
    | (go_at_call 44; refine CI.out.mono ?_; rintro e w' ⟨rfl, hw'⟩; subst w')
    | fail)
  clear c0 CI
  refine wp_region_tails Tryd.mixed (KS (fun i_ => match i_ with | 0 | 1 | 2 | 5 | 6 => .val (.pointer (some ⟨b, 0, none⟩)) | 3 => .val (.pointer (some ⟨b, 1, none⟩)) | 4 => .val (HV k) | 7 => .val (.pointer (some ⟨b, 33, none⟩)) | 8 => .val (HV v) | 9 => .val (HV (itH k v)) | _ => .free)) 35 rfl (by decide +kernel) 10 (by decide) (by decide +kernel) (KS_mono _) ?_ ?_
  · refine AllFrom.cons ⟨rfl, fun a' w' hg hk hd => ?_⟩ (AllFrom.cons ⟨rfl, fun a' w' hg hk hd => ?_⟩ (AllFrom.cons ⟨rfl, fun a' w' hg hk hd => ?_⟩ (AllFrom.cons ⟨rfl, fun a' w' hg hk hd => ?_⟩ (AllFrom.cons ⟨rfl, fun a' w' hg hk hd => ?_⟩ (AllFrom.cons ⟨rfl, fun a' w' hg hk hd => ?_⟩ (AllFrom.cons ⟨rfl, fun a' w' hg hk hd => ?_⟩ (AllFrom.cons ⟨rfl, fun a' w' hg hk hd => ?_⟩ (AllFrom.cons ⟨rfl, fun a' w' hg hk hd => ?_⟩ (AllFrom.cons ⟨rfl, fun a' w' hg hk hd => ?_⟩ AllFrom.nil)))))))))
    · skip
      intro Q
      have e0 : a'.eval (.tmp 0) = .pointer (some ⟨pl, 0, none⟩) := hk.at 0 (by decide +kernel)
      have hc := (BL.out.kept hg).cell (j := 0) rfl
      clear hd hk
      exact wp_value (.pointer (some ⟨b, 0, none⟩)) (by simp only [execOp, e0]; go_simp) (KS_mkv rfl rfl)
    · skip
      intro Q
      have e0 : a'.eval (.tmp 0) = .pointer (some ⟨pl, 0, none⟩) := hk.at 0 (by decide +kernel)
      have hc := (BL.out.kept hg).cell (j := 0) rfl
      clear hd hk
      exact wp_value (.pointer (some ⟨b, 0, none⟩)) (by simp only [execOp, e0]; go_simp) (KS_mkv rfl rfl)
    · skip
      intro Q
      have e4 : a'.eval (.tmp 4) = .pointer (some ⟨b, 0, none⟩) := KS_val (hd.val 1 4 (by decide +kernel)) rfl
      clear hd hk
      exact wp_value (.pointer (some ⟨b, 0, none⟩)) (by simp only [execOp, e4]; go_simp) (KS_mkv rfl rfl)
    · skip
      intro Q
      have e5 : a'.eval (.tmp 5) = .pointer (some ⟨b, 0, none⟩) := KS_val (hd.val 2 5 (by decide +kernel)) rfl
      clear hd hk
      exact wp_value (.pointer (some ⟨b, 1, none⟩)) (by simp only [execOp, e5]; go_simp) (KS_mkv rfl rfl)
    · skip
      intro Q
      have e6 : a'.eval (.tmp 6) = .pointer (some ⟨b, 1, none⟩) := KS_val (hd.val 3 6 (by decide +kernel)) rfl
      exact wp_load_row 24 _ rfl _ _ e6 (By (k).1) _ (NC.key (DL.out.kept hg)) Tryd.underlying24 rfl (Tryd.sizeH _) (KS_mkv rfl rfl)
    · skip
      intro Q
      have e0 : a'.eval (.tmp 0) = .pointer (some ⟨pl, 0, none⟩) := hk.at 0 (by decide +kernel)
      have hc := (BL.out.kept hg).cell (j := 0) rfl
      clear hd hk
      exact wp_value (.pointer (some ⟨b, 0, none⟩)) (by simp only [execOp, e0]; go_simp) (KS_mkv rfl rfl)
    · skip
      intro Q
      have e8 : a'.eval (.tmp 8) = .pointer (some ⟨b, 0, none⟩) := KS_val (hd.val 5 8 (by decide +kernel)) rfl
      clear hd hk
      exact wp_value (.pointer (some ⟨b, 0, none⟩)) (by simp only [execOp, e8]; go_simp) (KS_mkv rfl rfl)
    · skip
      intro Q
      have e9 : a'.eval (.tmp 9) = .pointer (some ⟨b, 0, none⟩) := KS_val (hd.val 6 9 (by decide +kernel)) rfl
      clear hd hk
      exact wp_value (.pointer (some ⟨b, 33, none⟩)) (by simp only [execOp, e9]; go_simp) (KS_mkv rfl rfl)
    · skip
      intro Q
      have e10 : a'.eval (.tmp 10) = .pointer (some ⟨b, 33, none⟩) := KS_val (hd.val 7 10 (by decide +kernel)) rfl
      exact wp_load_row 24 _ rfl _ _ e10 (By (v).1) _ (NC.value (DL.out.kept hg)) Tryd.underlying24 rfl (Tryd.sizeH _) (KS_mkv rfl rfl)
    · skip
      intro Q
      have e7 : a'.eval (.tmp 7) = HV k := KS_val (hd.val 4 7 (by decide +kernel)) rfl
      have e11 : a'.eval (.tmp 11) = HV v := KS_val (hd.val 8 11 (by decide +kernel)) rfl
      refine wp_call 52 _ (run_enter 52 _ _ rfl (by kernel_rfl)) ?_
      simp only [List.map_toArray, List.map_nil, List.map_cons, e7, e11]
      refine (hitem_any _ _ _ (TL.out.gr hg)).mono ?_
      rintro e w5 ⟨rfl, hb5⟩
      exact ⟨_, rfl, KS_mkv rfl rfl, hb5⟩
  · intro a' w3 hsz hdf hk hall hg
    have e3 : a'.eval (.tmp 3) = .pointer (some ⟨b, 0, none⟩) := KS_val (hall 0 _ 3 (by decide) rfl rfl) rfl
    have e12 : a'.eval (.tmp 12) = HV (itH k v) := KS_val (hall 9 _ 12 (by decide) rfl rfl) rfl
    have D3 := hide (DL.out.kept hg)
    have T3 : Hid (Tb B0 b wl w3) := (show _ from Tb.of_below hg)
    clear hall hk hg
    refine ⟨rfl, Oper.wp_mono ?_ (wp_same (C := fun x => x = w3) (.pointer (some ⟨b, 0, none⟩)) (by simp only [execOp, e3]; go_simp) rfl)⟩
    rintro a2 w4 ⟨rfl, hw4⟩
    rw [hw4]
    clear hw4
    clear w4
    refine ⟨_, rfl, ?_⟩
    obtain ⟨a3, hq⟩ : ∃ z, z = a'.put (some 13) (.pointer (some ⟨b, 0, none⟩)) := ⟨_, rfl⟩
    change wpSeq _ _ _ (a'.put (some 13) (.pointer (some ⟨b, 0, none⟩))) _
    rw [← hq]
    have f13 : a3.eval (.tmp 13) = .pointer (some ⟨b, 0, none⟩) := by rw [hq]; exact eval_put_same (by rw [hsz]; simp)
    have f12 : a3.eval (.tmp 12) = HV (itH k v) := by rw [hq, eval_put_other (by decide)]; exact e12
    have hsz2 : a3.tmps.size = 35 := by rw [hq, put_size]; exact hsz
    have hdf3 : a3.defers = [] := by rw [hq, put_defers']; exact hdf
    clear hq e3 e12 hsz hdf
    refine ⟨rfl, Oper.wp_mono ?_ (wp_same (C := fun x => x = w3) (.pointer (some ⟨b, 70, none⟩)) (by simp only [execOp, f13]; go_simp) rfl)⟩
    rintro a2 w4 ⟨rfl, hw4⟩
    rw [hw4]
    clear hw4
    clear w4
    refine ⟨_, rfl, rfl, ?_⟩
    refine wp_store_mid 24 (.tmp 14) (.tmp 12) rfl b 70 (By (itH k v).1).toArray (eval_put_same (by rw [hsz2]; decide)) (by rw [eval_put_other (by decide)]; exact f12) (by rw [List.size_toArray, By_len]; exact D3.out.there 70 32 (by rw [NC_length]; decide)) (by simpa using Tryd.sizeH (itH k v)) (all_one (By_one _)) ?_
    refine ⟨_, rfl, ?_⟩
    have B5 : Blk (w3.setCells b 70 (By (itH k v).1)) b 101 (NC i k v l r 0 1 (itH k v)) := by have := D3.out.over (By (itH k v).1) 70 (by rw [By_len, NC_length]; decide); rwa [NC.setHash] at this
    have hdf4 : ((a3.put (some 14) (.pointer (some ⟨b, 70, none⟩))).put none undef).defers = [] := by rw [put_defers', put_defers']; exact hdf3
    unfold wpSeq
    refine bodyPost_end (fn := Tryd.f57) (results_none rfl _ _ _) hdf4 ?_
    exact ⟨rfl, itH k v, B5, HROOT.out.symm, w3, T3.out, But.setCells b _ 70 w3⟩
set_option maxHeartbeats 4000000 in
set_option maxRecDepth 100000 in
theorem root1_fork {B0 b pl : Nat} (ih : ∀ c, c < b → RootOk B0 c) {i : Nat} {k v : Hs} {bl br : Nat} {h : Hs} {wl : World} {L A B : List It} (hF : Forks L i A B) (hA : Nd B0 wl bl A) (hB : Nd B0 wl br B) (hbl : bl < b) (hbr : br < b) (hbp : b < pl) (h2 : 2 ≤ B0) (hD : Blk wl b 101 (NC i k v (PT bl) (PT br) 0 1 h)) (hP : Blk wl pl 58 [PT b]) (hT : Tabs wl) (hG : B0 ≤ wl.heap.size) :
    Calls Tryd.prog 57 #[PT pl] wl fun e w' => e = .returned (.tuple #[]) ∧ ∃ h', Blk w' b 101 (NC i k v (PT bl) (PT br) 0 1 h') ∧ Laid B0 b L wl h' w' := by
  have HROOT : Hid (rootP L = fkH i (rootP A) (rootP B)) := (show _ = _ from hF.root hA.srt.1 hB.srt.1)
  have hi := hF.lt
  have DL := hide hD
  have BL := hide hP
  have TL := hide hT
  have GL := hide hG
  have NA := hide hA
  have NB := hide hB
  have IH := hide ih
  have CI := hide (nisItem_any hD)
  rw [show decide ((i : Int) = 256) = false by simp; omega] at CI
  have c0 := hP.cell (j := 0) rfl
  clear hD hP hT hA hB hF hG ih
  go_enter Tryd.func57, Tryd.ntmps57
  go_upto_region 2 with (first
    | (go_at_call 44; refine CI.out.mono ?_; rintro e w' ⟨rfl, hw'⟩; subst w')
    | fail)
  clear c0 CI
  refine wp_region_tailsR (Tb.ok B0 b) Tryd.mixed (KR (R := Tb B0 b) (fun i_ => match i_ with | 0 | 1 | 2 | 3 | 5 | 6 | 11 | 12 => .val (.pointer (some ⟨b, 0, none⟩)) | 4 => .val (.int .i64 (i : Int)) | 7 | 8 | 13 => .val (.pointer (some ⟨b, 65, none⟩)) | 9 => .val (PT bl) | 10 => .val (HV (rootP A)) | 14 => .val (.pointer (some ⟨b, 66, none⟩)) | 15 => .val (PT br) | 16 => .val (HV (rootP B)) | 17 => .val (HV (fkH i (rootP A) (rootP B))) | _ => .free)) 35 rfl (by decide +kernel) 18 (by decide) (by decide +kernel) (KR_mono _) ?_ ?_
  · refine AllFrom.cons ⟨rfl, fun a' w' hg hk hd => ?_⟩ (AllFrom.cons ⟨rfl, fun a' w' hg hk hd => ?_⟩ (AllFrom.cons ⟨rfl, fun a' w' hg hk hd => ?_⟩ (AllFrom.cons ⟨rfl, fun a' w' hg hk hd => ?_⟩ (AllFrom.cons ⟨rfl, fun a' w' hg hk hd => ?_⟩ (AllFrom.cons ⟨rfl, fun a' w' hg hk hd => ?_⟩ (AllFrom.cons ⟨rfl, fun a' w' hg hk hd => ?_⟩ (AllFrom.cons ⟨rfl, fun a' w' hg hk hd => ?_⟩ (AllFrom.cons ⟨rfl, fun a' w' hg hk hd => ?_⟩ (AllFrom.cons ⟨rfl, fun a' w' hg hk hd => ?_⟩ (AllFrom.cons ⟨rfl, fun a' w' hg hk hd => ?_⟩ (AllFrom.cons ⟨rfl, fun a' w' hg hk hd => ?_⟩ (AllFrom.cons ⟨rfl, fun a' w' hg hk hd => ?_⟩ (AllFrom.cons ⟨rfl, fun a' w' hg hk hd => ?_⟩ (AllFrom.cons ⟨rfl, fun a' w' hg hk hd => ?_⟩ (AllFrom.cons ⟨rfl, fun a' w' hg hk hd => ?_⟩ (AllFrom.cons ⟨rfl, fun a' w' hg hk hd => ?_⟩ (AllFrom.cons ⟨rfl, fun a' w' hg hk hd => ?_⟩ AllFrom.nil)))))))))))))))))
    · skip
      intro Q
      have e0 : a'.eval (.tmp 0) = .pointer (some ⟨pl, 0, none⟩) := hk.at 0 (by decide +kernel)
      have hc := (BL.out.tb hg (Nat.le_of_lt hbp)).cell (j := 0) rfl
      clear hd hk
      exact wp_valueR (Tb.ok B0 b) (.pointer (some ⟨b, 0, none⟩)) (by simp only [execOp, e0]; go_simp) (KR_mkv rfl rfl)
    · skip
      intro Q
      have e0 : a'.eval (.tmp 0) = .pointer (some ⟨pl, 0, none⟩) := hk.at 0 (by decide +kernel)
      have hc := (BL.out.tb hg (Nat.le_of_lt hbp)).cell (j := 0) rfl
      clear hd hk
      exact wp_valueR (Tb.ok B0 b) (.pointer (some ⟨b, 0, none⟩)) (by simp only [execOp, e0]; go_simp) (KR_mkv rfl rfl)
    · skip
      intro Q
      have e16 : a'.eval (.tmp 16) = .pointer (some ⟨b, 0, none⟩) := KR_val (hd.val 1 16 (by decide +kernel)) rfl
      clear hd hk
      exact wp_valueR (Tb.ok B0 b) (.pointer (some ⟨b, 0, none⟩)) (by simp only [execOp, e16]; go_simp) (KR_mkv rfl rfl)
    · skip
      intro Q
      have e17 : a'.eval (.tmp 17) = .pointer (some ⟨b, 0, none⟩) := KR_val (hd.val 2 17 (by decide +kernel)) rfl
      clear hd hk
      exact wp_valueR (Tb.ok B0 b) (.pointer (some ⟨b, 0, none⟩)) (by simp only [execOp, e17]; go_simp) (KR_mkv rfl rfl)
    · skip
      intro Q
      have e18 : a'.eval (.tmp 18) = .pointer (some ⟨b, 0, none⟩) := KR_val (hd.val 3 18 (by decide +kernel)) rfl
      have hc := NC.bit (DL.out.tb hg (Nat.le_refl _))
      clear hd hk
      exact wp_valueR (Tb.ok B0 b) (.int .i64 (i : Int)) (by simp only [execOp, e18]; go_simp) (KR_mkv rfl rfl)
    · skip
      intro Q
      have e0 : a'.eval (.tmp 0) = .pointer (some ⟨pl, 0, none⟩) := hk.at 0 (by decide +kernel)
      have hc := (BL.out.tb hg (Nat.le_of_lt hbp)).cell (j := 0) rfl
      clear hd hk
      exact wp_valueR (Tb.ok B0 b) (.pointer (some ⟨b, 0, none⟩)) (by simp only [execOp, e0]; go_simp) (KR_mkv rfl rfl)
    · skip
      intro Q
      have e20 : a'.eval (.tmp 20) = .pointer (some ⟨b, 0, none⟩) := KR_val (hd.val 5 20 (by decide +kernel)) rfl
      clear hd hk
      exact wp_valueR (Tb.ok B0 b) (.pointer (some ⟨b, 0, none⟩)) (by simp only [execOp, e20]; go_simp) (KR_mkv rfl rfl)
    · skip
      intro Q
      have e21 : a'.eval (.tmp 21) = .pointer (some ⟨b, 0, none⟩) := KR_val (hd.val 6 21 (by decide +kernel)) rfl
      clear hd hk
      exact wp_valueR (Tb.ok B0 b) (.pointer (some ⟨b, 65, none⟩)) (by simp only [execOp, e21]; go_simp) (KR_mkv rfl rfl)
    · skip
      intro Q
      have e22 : a'.eval (.tmp 22) = .pointer (some ⟨b, 65, none⟩) := KR_val (hd.val 7 22 (by decide +kernel)) rfl
      clear hd hk
      exact wp_valueR (Tb.ok B0 b) (.pointer (some ⟨b, 65, none⟩)) (by simp only [execOp, e22]; go_simp) (KR_mkv rfl rfl)
    · skip
      intro Q
      have e23 : a'.eval (.tmp 23) = .pointer (some ⟨b, 65, none⟩) := KR_val (hd.val 8 23 (by decide +kernel)) rfl
      have hc := NC.left (DL.out.tb hg (Nat.le_refl _))
      clear hd hk
      exact wp_valueR (Tb.ok B0 b) (PT bl) (by simp only [execOp, e23]; go_simp) (KR_mkv rfl rfl)
    · skip
      intro Q
      have e24 : a'.eval (.tmp 24) = PT bl := KR_val (hd.val 9 24 (by decide +kernel)) rfl
      refine wp_callR 43 _ (run_enter 43 _ _ rfl (by kernel_rfl)) ?_
      simp only [List.map_toArray, List.map_nil, List.map_cons, e24]
      refine (IH.out bl hbl A _ (hg.tch.nd NA.out) (TL.out.tch hg.tch h2 GL.out) (Nat.le_trans GL.out hg.tch.size)).mono ?_
      rintro e w5 ⟨rfl, hb5⟩
      exact ⟨_, rfl, KR_mkv rfl rfl, hb5.mono hbl⟩
    · skip
      intro Q
      have e0 : a'.eval (.tmp 0) = .pointer (some ⟨pl, 0, none⟩) := hk.at 0 (by decide +kernel)
      have hc := (BL.out.tb hg (Nat.le_of_lt hbp)).cell (j := 0) rfl
      clear hd hk
      exact wp_valueR (Tb.ok B0 b) (.pointer (some ⟨b, 0, none⟩)) (by simp only [execOp, e0]; go_simp) (KR_mkv rfl rfl)
    · skip
      intro Q
      have e26 : a'.eval (.tmp 26) = .pointer (some ⟨b, 0, none⟩) := KR_val (hd.val 11 26 (by decide +kernel)) rfl
      clear hd hk
      exact wp_valueR (Tb.ok B0 b) (.pointer (some ⟨b, 0, none⟩)) (by simp only [execOp, e26]; go_simp) (KR_mkv rfl rfl)
    · skip
      intro Q
      have e27 : a'.eval (.tmp 27) = .pointer (some ⟨b, 0, none⟩) := KR_val (hd.val 12 27 (by decide +kernel)) rfl
      clear hd hk
      exact wp_valueR (Tb.ok B0 b) (.pointer (some ⟨b, 65, none⟩)) (by simp only [execOp, e27]; go_simp) (KR_mkv rfl rfl)
    · skip
      intro Q
      have e28 : a'.eval (.tmp 28) = .pointer (some ⟨b, 65, none⟩) := KR_val (hd.val 13 28 (by decide +kernel)) rfl
      clear hd hk
      exact wp_valueR (Tb.ok B0 b) (.pointer (some ⟨b, 66, none⟩)) (by simp only [execOp, e28]; go_simp) (KR_mkv rfl rfl)
    · skip
      intro Q
      have e29 : a'.eval (.tmp 29) = .pointer (some ⟨b, 66, none⟩) := KR_val (hd.val 14 29 (by decide +kernel)) rfl
      have hc := NC.right (DL.out.tb hg (Nat.le_refl _))
      clear hd hk
      exact wp_valueR (Tb.ok B0 b) (PT br) (by simp only [execOp, e29]; go_simp) (KR_mkv rfl rfl)
    · skip
      intro Q
      have e30 : a'.eval (.tmp 30) = PT br := KR_val (hd.val 15 30 (by decide +kernel)) rfl
      refine wp_callR 43 _ (run_enter 43 _ _ rfl (by kernel_rfl)) ?_
      simp only [List.map_toArray, List.map_nil, List.map_cons, e30]
      refine (IH.out br hbr B _ (hg.tch.nd NB.out) (TL.out.tch hg.tch h2 GL.out) (Nat.le_trans GL.out hg.tch.size)).mono ?_
      rintro e w5 ⟨rfl, hb5⟩
      exact ⟨_, rfl, KR_mkv rfl rfl, hb5.mono hbr⟩
    · skip
      intro Q
      have e19 : a'.eval (.tmp 19) = .int .i64 (i : Int) := KR_val (hd.val 4 19 (by decide +kernel)) rfl
      have e25 : a'.eval (.tmp 25) = HV (rootP A) := KR_val (hd.val 10 25 (by decide +kernel)) rfl
      have e31 : a'.eval (.tmp 31) = HV (rootP B) := KR_val (hd.val 16 31 (by decide +kernel)) rfl
      refine wp_callR 54 _ (run_enter 54 _ _ rfl (by kernel_rfl)) ?_
      simp only [List.map_toArray, List.map_nil, List.map_cons, e19, e25, e31]
      refine (hfork_any i _ _ _ (TL.out.tch hg.tch h2 GL.out)).mono ?_
      rintro e w5 ⟨rfl, hb5⟩
      exact ⟨_, rfl, KR_mkv rfl rfl, Tb.of_below hb5⟩
  · intro a' w3 hsz hdf hk hall hg
    have e15 : a'.eval (.tmp 15) = .pointer (some ⟨b, 0, none⟩) := KR_val (hall 0 _ 15 (by decide) rfl rfl) rfl
    have e32 : a'.eval (.tmp 32) = HV (fkH i (rootP A) (rootP B)) := KR_val (hall 17 _ 32 (by decide) rfl rfl) rfl
    have D3 := hide (DL.out.tb hg (Nat.le_refl _))
    have T3 : Hid (Tb B0 b wl w3) := (show _ from hg)
    clear hall hk hg
    refine ⟨rfl, Oper.wp_mono ?_ (wp_same (C := fun x => x = w3) (.pointer (some ⟨b, 0, none⟩)) (by simp only [execOp, e15]; go_simp) rfl)⟩
    rintro a2 w4 ⟨rfl, hw4⟩
    rw [hw4]
    clear hw4
    clear w4
    refine ⟨_, rfl, ?_⟩
    obtain ⟨a3, hq⟩ : ∃ z, z = a'.put (some 33) (.pointer (some ⟨b, 0, none⟩)) := ⟨_, rfl⟩
    change wpSeq _ _ _ (a'.put (some 33) (.pointer (some ⟨b, 0, none⟩))) _
    rw [← hq]
    have f33 : a3.eval (.tmp 33) = .pointer (some ⟨b, 0, none⟩) := by rw [hq]; exact eval_put_same (by rw [hsz]; simp)
    have f32 : a3.eval (.tmp 32) = HV (fkH i (rootP A) (rootP B)) := by rw [hq, eval_put_other (by decide)]; exact e32
    have hsz2 : a3.tmps.size = 35 := by rw [hq, put_size]; exact hsz
    have hdf3 : a3.defers = [] := by rw [hq, put_defers']; exact hdf
    clear hq e15 e32 hsz hdf
    refine ⟨rfl, Oper.wp_mono ?_ (wp_same (C := fun x => x = w3) (.pointer (some ⟨b, 70, none⟩)) (by simp only [execOp, f33]; go_simp) rfl)⟩
    rintro a2 w4 ⟨rfl, hw4⟩
    rw [hw4]
    clear hw4
    clear w4
    refine ⟨_, rfl, rfl, ?_⟩
    refine wp_store_mid 24 (.tmp 34) (.tmp 32) rfl b 70 (By (fkH i (rootP A) (rootP B)).1).toArray (eval_put_same (by rw [hsz2]; decide)) (by rw [eval_put_other (by decide)]; exact f32) (by rw [List.size_toArray, By_len]; exact D3.out.there 70 32 (by rw [NC_length]; decide)) (by simpa using Tryd.sizeH (fkH i (rootP A) (rootP B))) (all_one (By_one _)) ?_
    refine ⟨_, rfl, ?_⟩
    have B5 : Blk (w3.setCells b 70 (By (fkH i (rootP A) (rootP B)).1)) b 101 (NC i k v (PT bl) (PT br) 0 1 (fkH i (rootP A) (rootP B))) := by have := D3.out.over (By (fkH i (rootP A) (rootP B)).1) 70 (by rw [By_len, NC_length]; decide); rwa [NC.setHash] at this
    have hdf4 : ((a3.put (some 34) (.pointer (some ⟨b, 70, none⟩))).put none undef).defers = [] := by rw [put_defers', put_defers']; exact hdf3
    unfold wpSeq
    refine bodyPost_end (fn := Tryd.f57) (results_none rfl _ _ _) hdf4 ?_
    exact ⟨rfl, fkH i (rootP A) (rootP B), B5, HROOT.out.symm, w3, T3.out, But.setCells b _ 70 w3⟩
set_option maxHeartbeats 4000000 in
set_option maxRecDepth 100000 in
theorem nroot_any {B0 : Nat} (h2 : 2 ≤ B0) : ∀ b, RootOk B0 b := by
  intro b
  induction b using Nat.strongRecOn with
  | _ b ih =>
  intro L w hn hT hG
  obtain ⟨N, HN⟩ : ∃ N, Hid (w.heap.size = N) := ⟨_, rfl⟩
  have hbN : b < N := by rw [← HN.out]; exact hn.lt
  have hb2 : 2 ≤ b := Nat.le_trans h2 hn.ge
  have IH := hide ih
  have HND := hide hn
  have HT := hide hT
  have HG := hide hG
  clear ih hn hT hG
  obtain ⟨rt, HR⟩ : ∃ z, Hid (rootP L = z) := ⟨_, rfl⟩
  rw [HR.out]
  have hmf : ∀ (fn : Fn) (first cap : Array Value) (w : World), (Instr.makeFunc fn first cap).run Tryd.prog w = .ok (.func fn first cap) w := fun _ _ _ _ => rfl
  go_enter Tryd.func43, Tryd.ntmps43
  go_upto_region 1 with fail
  obtain ⟨w1, hw1⟩ : ∃ z, z = (w.alloc (.cells #[PT b] 58 (0, 0))).alloc (.cells (By zh.1).toArray 24 (0, 0)) := ⟨_, rfl⟩
  change Code.wp _ _ _ _ ((w.alloc (.cells #[PT b] 58 (0, 0))).alloc (.cells (By zh.1).toArray 24 (0, 0)))
  rw [← hw1, HN.out]
  have P1 : Hid (Blk w1 N 58 [PT b]) := (show Blk _ _ _ _ by rw [hw1, ← HN.out]; exact (Blk.new w 58 [PT b]).alloc _)
  have V1 : Hid (Blk w1 (N + 1) 24 (By zh.1)) := (show Blk _ _ _ _ by rw [hw1, ← HN.out]; have := Blk.new (w.alloc (.cells #[PT b] 58 (0, 0))) 24 (By zh.1); simpa using this)
  have L1 : Hid (Below w.heap.size w w1) := (show Below _ _ _ by rw [hw1]; exact ((Below.refl _ _).alloc (Nat.le_refl _) _).alloc (by simp) _)
  clear hw1
  have N1 := hide (HND.out.kept L1.out)
  have T1 := hide (HT.out.gr L1.out)
  have G1 : Hid (B0 ≤ w1.heap.size) := (show _ ≤ _ from Nat.le_trans HG.out L1.out.size)
  obtain ⟨-, i, k, v, l, r, d, hh, hB, hd, h1⟩ := Nd.iff.1 N1.out
  have D1 := hide hB
  have HX := hide h1
  clear hB h1
  have c0 := P1.out.cell (j := 0) rfl
  rcases hd with rfl | ⟨rfl, hhr⟩
  · have BW : Hid (But b w1 (w1.setCell ⟨b, 68, none⟩ (.int .i32 1))) := But.setCell b w1 68 _
    have HCF : Hid (Calls Tryd.prog 57 #[PT N] (w1.setCell ⟨b, 68, none⟩ (.int .i32 1)) fun e w' => e = .returned (.tuple #[]) ∧ ∃ h', Blk w' b 101 (NC i k v l r 0 1 h') ∧ Laid B0 b L (w1.setCell ⟨b, 68, none⟩ (.int .i32 1)) h' w') := (show _ by
      have hDl : Blk (w1.setCell ⟨b, 68, none⟩ (.int .i32 1)) b 101 (NC i k v l r 0 1 hh) := by have := D1.out.set 68 (.int .i32 1); rwa [NC.setLock] at this
      have hPl := P1.out.but BW.out (by omega)
      have hTl := T1.out.but BW.out hb2
      rcases HX.out with ⟨rfl, rfl, rfl, rfl⟩ | ⟨A, B, bl, br, hF, hk, hbl, hbr, rfl, rfl, hA, hB⟩
      · exact root1_item rfl hDl hPl hTl
      · have hb1 := D1.out.lt
        exact root1_fork IH.out hF (hA.low (fun j hj => BW.out.block j (by omega) (by omega))) (hB.low (fun j hj => BW.out.block j (by omega) (by omega))) hbl hbr hbN h2 hDl hPl hTl (Nat.le_trans G1.out BW.out.size))
    have CD := hide (do_first b N w1 D1.out _ HCF.out)
    clear HCF
    go_wp2_with fail
    refine CD.out.mono ?_
    rintro e w2 ⟨rfl, h', w5, hB5, ⟨rfl, w3, hT3, hu3⟩, rfl⟩
    obtain ⟨w6, hw6⟩ : ∃ z, z = (w5.drew.setCell ⟨b, 67, none⟩ (.int .u32 1)).setCell ⟨b, 68, none⟩ (.int .i32 0) := ⟨_, rfl⟩
    rw [← hw6]
    have hB6 : Blk w6 b 101 (NC i k v l r 1 0 (rootP L)) := by
      have e1 := (hB5.drew.set 67 (.int .u32 1)).set 68 (.int .i32 0)
      rw [NC.setDone, NC.setLock] at e1
      rw [hw6]; exact e1
    have hu6 : But b w3 w6 := by
      have e1 : But b w5 w5.drew := ⟨rfl, rfl, rfl, Nat.le_refl _, fun _ _ _ => rfl⟩
      have e2 := (But.setCell b w5.drew 67 (.int .u32 1)).trans (But.setCell b _ 68 (.int .i32 0))
      rw [← hw6] at e2
      exact hu3.trans (e1.trans e2)
    obtain ⟨hTb, hN6⟩ := Tb.laid N1.out D1.out BW.out hT3 hu6 hB6
    have T6 := hide hTb
    have D6 := hide hB6
    have P6 := hide (P1.out.tb hTb (by omega))
    have V6 := hide (V1.out.tb hTb (by omega))
    clear hw6 hTb hN6 hB6 hu6 hu3 hT3 hB5 CD
    rw [HR.out] at D6
    have c1 := P6.out.cell (j := 0) rfl
    have rh := NC.hash D6.out
    go_wp2_with (first
      | (refine wpList_load_mid rfl 24 _ rfl b 70 rfl (By rt.1) _ rh Tryd.underlying24 rfl (Tryd.sizeH rt) ?_)
      | (refine wpList_store_blk rfl 24 _ _ rfl (N + 1) (By zh.1) (By rt.1) 24 rfl rfl V6.out (by rw [By_len, By_len]) (Tryd.sizeH rt) (By_one _) ?_; intro w7 hb7 hu7)
      | fail)
    refine bodyPost_ret (ret_hash rfl _ _ (N + 1) rt rfl hb7) rfl ⟨rfl, ?_⟩
    exact ((Tb.of_below L1.out).trans T6.out).but hu7 (by rw [HN.out]; omega)
  · subst hhr
    have CD := hide (do_done b (.func (.func 57) #[] #[PT N]) w1 D1.out)
    have D6 := hide D1.out
    rw [HR.out] at D6
    have rh := NC.hash D6.out
    go_wp2_with (first
      | (go_at_call 56; refine CD.out.mono ?_; rintro e w' ⟨rfl, rfl⟩)
      | (refine wpList_load_mid rfl 24 _ rfl b 70 rfl (By rt.1) _ rh Tryd.underlying24 rfl (Tryd.sizeH rt) ?_)
      | (refine wpList_store_blk rfl 24 _ _ rfl (N + 1) (By zh.1) (By rt.1) 24 rfl rfl V1.out (by rw [By_len, By_len]) (Tryd.sizeH rt) (By_one _) ?_; intro w7 hb7 hu7)
      | fail)
    refine bodyPost_ret (ret_hash rfl _ _ (N + 1) rt rfl hb7) rfl ⟨rfl, ?_⟩
    exact (Tb.of_below L1.out).but hu7 (by rw [HN.out]; omega)
#print axioms nroot_any
end Go.Proofs.YtooffljimdklfaaDoor
