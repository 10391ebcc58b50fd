/-
  slices.Clone, maps.Clone: what the calls do.
-/
import Derived.Test.YtnkcjhfdmnpckaaDiskL
import Derived.WalkSpells
import Derived.Laws.Externs
import Derived.MapKept
namespace Go.Proofs.Ytnkcjhfdmnpckaa
open Go.RowKit
theorem Try.info3 : (Try.prog.info? 3).map (fun i => (i.zero, i.size, i.bytes)) = some (some (.int .i64 0), 1, 8) := by kernel_rfl
theorem Try.info68 : (Try.prog.info? 68).map (fun i => (i.zero, i.size, i.bytes)) = some (some (.agg (By Zs).toArray), 32, 32) := by kernel_rfl
theorem RdN.src {w : World} {v : Value} {l : List Int} (h : RdN w v l) : Src Try.prog 1 30 v l.length (Ni l) w := by
  obtain ⟨a, cap, rfl, h1, h2, h3, h4⟩ := h
  cases a with
  | none =>
    have := h3 rfl
    have hl : l = [] := List.eq_nil_of_length_eq_zero (by omega)
    subst hl
    exact Src.ofNil w Try.underlying30 cap
  | some x =>
    refine Src.ofSlice w Try.underlying30 x l.length cap (Ni l) (by simp [Ni_length]) (fun j u hj => ?_) (Ni_one l)
    have hjl : j < l.length := by
      have := (List.getElem?_eq_some_iff.1 hj).1
      simpa [Ni_length] using this
    obtain ⟨b, off, e, _, hc⟩ := h4 (by omega)
    simp only [Option.some.injEq] at e
    subst e
    rw [Addr.add_lit, hc j hjl, ← hj, Ni_get hjl]
set_option maxHeartbeats 1000000 in
set_option maxRecDepth 100000 in
theorem cloneI_any {w : World} {v : Value} {l : List Int} (h : RdN w v l) (hl : l.length ≤ 1000000) :
    Calls Try.prog 38 #[v] w fun e w' => ∃ v', e = .returned v' ∧ OwnN w' v' l ∧ (∀ b, v'.ownBlock = some b → w.heap.size ≤ b) ∧ Below w.heap.size w w' := by
  have HR : Hid (RdN w v l) := h
  obtain ⟨a, cap, rfl, h1, h2, h3, h4⟩ := h
  clear h4
  obtain ⟨i0, hi, hz0, hz1, hz2⟩ := info_parts Try.info3
  have hq := fun W => Lib.run_eql_slice_nil (P := Try.prog) W 30 3 a l.length cap 0 0 Try.underlying30
  go_enter Try.func38, Try.ntmps38
  cases a with
  | none =>
    have hc0 := h3 rfl
    have hl0 : l = [] := List.eq_nil_of_length_eq_zero (by omega)
    subst hl0 hc0
    simp only [Option.isNone_none, List.length_nil] at hq ⊢
    go_wp2
    go_ret
    exact ⟨_, rfl, OwnN_nil _, fun b hb => (by cases hb), Below.refl _ _⟩
  | some x =>
    simp only [Option.isNone_some] at hq
    go_wp2_with (first
      | (at_builtin; refine wpList_append_mine _ rfl (.tmp 5) (.tmp 6) 30 30 rfl w.heap.size 3 i0 (.int .i64 0) 1 8 Try.underlying30 hi hz0 hz1 hz2 rfl (.slice (some ⟨w.heap.size, 0, none⟩) 0 0) 0 [] rfl ⟨rfl, .inr ⟨w.heap.size, 0, #[], rfl, Nat.le_refl _, heap_alloc_new w _, Nat.le_refl _, by simp [maxLen], rfl, rfl⟩⟩ (.slice (some x) l.length cap) l.length (Ni l) rfl (HR.out.kept ((Below.refl _ _).alloc (Nat.le_refl _) _)).src (by simp only [maxLen]; omega) (by omega) (by simp) ?_)
      | fail)
    intro v' w' ho hg
    go_wp2
    go_ret
    refine ⟨v', rfl, ⟨ho.1, ?_⟩, fun b hb => (ho.lt b hb).1, ?_⟩
    · rcases ho.2 with h | ⟨g, cap, cur, hv, hg, r⟩
      · exact .inl h
      · exact .inr ⟨g, cap, cur, hv, Nat.zero_le _, r⟩
    · exact ((Below.refl _ _).alloc (Nat.le_refl _) _).trans ((Below.refl _ _).grown hg (by simp) (fun k hk => by cases hk; exact Nat.le_refl _))
theorem OwnS.src {w : World} {S n cap : Nat} {l : List UInt8} (h : OwnS w S n cap l) : Src Try.prog 32 51 (.slice (some ⟨S, 0, none⟩) n cap) n (By l) w :=
  Src.ofSlice w Try.underlying51 ⟨S, 0, none⟩ n cap (By l) (by rw [By_length]; exact h.len) (fun j u hj => by
    rw [Addr.add_lit]
    have := World.ownsRow.cells h (g := S) rfl j u hj
    simpa [Addr.add_lit] using this) (By_one l)
set_option maxHeartbeats 1000000 in
set_option maxRecDepth 100000 in
theorem cloneS_any {w : World} {S n cap : Nat} {l : List UInt8} (h : OwnS w S n cap l) (hn : n ≤ 4096) (hp : 0 < n) :
    Calls Try.prog 40 #[.slice (some ⟨S, 0, none⟩) n cap] w fun e w' => ∃ S' cap', e = .returned (.slice (some ⟨S', 0, none⟩) n cap') ∧ OwnS w' S' n cap' l ∧ w.heap.size ≤ S' ∧ Below w.heap.size w w' := by
  have HS : Hid (OwnS w S n cap l) := h
  clear h
  obtain ⟨i0, hi, hz0, hz1, hz2⟩ := info_parts Try.info68
  have hq : ∀ W, (binOp .eql 51 (.slice (some ⟨S, 0, none⟩) n cap) (.slice none 0 0)).run Try.prog W = .ok (.bool false) W := fun W => Lib.run_eql_slice_nil (P := Try.prog) W 51 68 (some ⟨S, 0, none⟩) n cap 0 0 Try.underlying51
  go_enter Try.func40, Try.ntmps40
  go_wp2_with (first
    | (at_builtin; refine wpList_append_mine _ rfl (.tmp 5) (.tmp 6) 51 51 rfl w.heap.size 68 i0 (.agg (By Zs).toArray) 32 32 Try.underlying51 hi hz0 hz1 hz2 rfl (.slice (some ⟨w.heap.size, 0, none⟩) 0 0) 0 [] rfl ⟨rfl, .inr ⟨w.heap.size, 0, #[], rfl, Nat.le_refl _, heap_alloc_new w _, Nat.le_refl _, by simp [maxLen], rfl, rfl⟩⟩ (.slice (some ⟨S, 0, none⟩) n cap) n (By l) rfl (HS.out.chg (F := fun _ => False) (Chg.alloc _ _ _) id).src (by simp only [maxLen]; omega) (by omega) (by simp) ?_)
    | fail)
  intro v' w' ho hg
  go_wp2
  go_ret
  rcases ho.2 with ⟨h, h0⟩ | ⟨g, cap', cur, hv, hgb, r⟩
  · omega
  · refine ⟨g, cap', by show Ending.returned v' = _; rw [hv], ⟨ho.1, .inr ⟨g, cap', cur, rfl, Nat.zero_le _, r⟩⟩, hgb, ?_⟩
    exact ((Below.refl _ _).alloc (Nat.le_refl _) _).trans ((Below.refl _ _).grown hg (by simp) (fun k hk => by cases hk; exact Nat.le_refl _))
section
variable {P : Program} (w : World)
theorem run_typeAssert_map (t xT k e : TypeId) (v : Value) (h : P.underlying t = some (.map k e)) : (Instr.typeAssert (.iface t v) xT t false).run P w = .ok v w := by
  simp [Instr.typeAssert, run_underlying h, go_sem, Result.andThen]
theorem run_maps_clone {r : Nat} {es : Array MapEntry} {clock : Nat} (t : TypeId) (hb : w.heap[r]? = some (.map es clock)) :
    (Extern.MapsClone.clone #[.iface t (.map (some r))]).run P w = .ok (.iface t (.map (some w.heap.size))) (w.alloc (.map es clock)) := by
  have e : Extern.MapsClone.clone #[.iface t (.map (some r))] = (getObj r >>= fun o => match o with
      | .map entries clock => (newObj (.map entries clock) >>= fun n => pure (.iface t (.map (some n))))
      | _ => stuck "maps.clone: a map expected") := rfl
  rw [e]
  simp [MapKept.run_getObj_map hb, Result.andThen, go_sem]
end
set_option maxHeartbeats 1000000 in
set_option maxRecDepth 100000 in
theorem cloneM_any {w : World} {M N : Nat} {f : Int → Option (List UInt8)} (h : MapS w M f N) :
    Calls Try.prog 41 #[.map (some M)] w fun e w' => e = .returned (.map (some w.heap.size)) ∧ MapS w' w.heap.size f N ∧ Below w.heap.size w w' := by
  have HM : Hid (MapS w M f N) := h
  obtain ⟨es, clock, hb⟩ := h.block
  clear h
  have hq : ∀ W, (binOp .eql 52 (.map (some M)) (.map none)).run Try.prog W = .ok (.bool false) W := fun W => run_eql_map_nil (P := Try.prog) W 52 3 68 (some M) Try.underlying52
  go_enter Try.func41, Try.ntmps41
  go_wp2
  rw [run_callFunc_extern Try.func45 (by kernel_rfl) (by kernel_rfl) (by kernel_rfl) (e := Extern.MapsClone.clone) (by kernel_rfl), run_maps_clone w 52 hb]
  simp only [Result.andThen]
  rw [Oper.upon_value]
  go_wp2
  rw [run_typeAssert_map _ 52 20 _ _ _ Try.underlying52]
  simp only [Result.andThen]
  rw [Oper.upon_value]
  go_wp2
  go_ret
  exact ⟨rfl, HM.out.copy hb, (Below.refl _ _).alloc (Nat.le_refl _) _⟩
end Go.Proofs.Ytnkcjhfdmnpckaa
