/-
  The store's Copy: what the call does.
-/
import Derived.Test.YtgaoionnfkbhaaaRfL
import Derived.WalkSpells
import Derived.Laws.Externs
import Derived.MapKept
namespace Go.Proofs.Ytgaoionnfkbhaaa
open Go.RowKit
section
variable {P : Program} (w : World)
theorem run_typeAssert_map (t xT k e : TypeId) (v : Value) (h : P.underlying t = some (.map k e)) : (Instr.typeAssert (.iface t v) xT t false).run P w = .ok v w := by
  simp [Instr.typeAssert, run_underlying h, go_sem, Result.andThen]
theorem run_maps_clone {r : Nat} {es : Array MapEntry} {clock : Nat} (t : TypeId) (hb : w.heap[r]? = some (.map es clock)) :
    (Extern.MapsClone.clone #[.iface t (.map (some r))]).run P w = .ok (.iface t (.map (some w.heap.size))) (w.alloc (.map es clock)) := by
  have e : Extern.MapsClone.clone #[.iface t (.map (some r))] = (getObj r >>= fun o => match o with
      | .map entries clock => (newObj (.map entries clock) >>= fun n => pure (.iface t (.map (some n))))
      | _ => stuck "maps.clone: a map expected") := rfl
  rw [e]
  simp [MapKept.run_getObj_map hb, Result.andThen, go_sem]
end
theorem MapC.copy {w : World} {M : Nat} {ch : ByteArray → List Ver} {N : Nat} (h : MapC w M ch N) {es : Array MapEntry} {clock : Nat} (hb : w.heap[M]? = some (.map es clock)) : MapC (w.alloc (.map es clock)) w.heap.size ch N := by
  obtain ⟨f, h1, h2, h3⟩ := h
  exact ⟨f, h1.copy hb, fun k v hk => ⟨(h2 k v hk).1, (h2 k v hk).2.kept ((Below.refl _ _).alloc (Nat.le_refl _) _)⟩, h3⟩
set_option maxHeartbeats 1000000 in
set_option maxRecDepth 100000 in
theorem cloneC_any {w : World} {M N : Nat} {ch : ByteArray → List Ver} (h : MapC w M ch N) :
    Calls Try.prog 43 #[.map (some M)] w fun e w' => e = .returned (.map (some w.heap.size)) ∧ MapC w' w.heap.size ch N ∧ Below w.heap.size w w' := by
  have HM := hide h
  obtain ⟨es, clock, hb⟩ := h.block
  clear h
  have hq : ∀ W, (binOp .eql 53 (.map (some M)) (.map none)).run Try.prog W = .ok (.bool false) W := fun W => run_eql_map_nil (P := Try.prog) W 53 9 66 (some M) Try.underlying53
  go_enter Try.func43, Try.ntmps43
  go_wp2
  rw [run_callFunc_extern Try.func58 (by kernel_rfl) (by kernel_rfl) (by kernel_rfl) (e := Extern.MapsClone.clone) (by kernel_rfl), run_maps_clone w 53 hb]
  simp only [Result.andThen]
  rw [Oper.upon_value]
  go_wp2
  rw [run_typeAssert_map _ 53 20 _ _ _ Try.underlying53]
  simp only [Result.andThen]
  rw [Oper.upon_value]
  go_wp2
  go_ret
  exact ⟨rfl, HM.out.copy hb, (Below.refl _ _).alloc (Nat.le_refl _) _⟩
set_option maxHeartbeats 1000000 in
set_option maxRecDepth 100000 in
theorem cloneK_any {w : World} {v : Value} {l : List ByteArray} (h : RdG KE w v l) (hl : l.length ≤ 1000000) :
    Calls Try.prog 44 #[v] w fun e w' => ∃ v', e = .returned v' ∧ OwnG KE w' w.heap.size 9 v' l ∧ Below w.heap.size w w' := by
  have HR := hide h
  obtain ⟨a, cap, rfl, h1, h2, h3, h4⟩ := h
  clear h4
  have hq := fun W => Lib.run_eql_slice_nil (P := Try.prog) W 47 9 a l.length cap 0 0 Try.underlying47
  go_enter Try.func44, Try.ntmps44
  cases a with
  | none =>
    have hc0 := h3 rfl
    have hl0 : l = [] := List.eq_nil_of_length_eq_zero (by omega)
    subst hl0 hc0
    simp only [Option.isNone_none, List.length_nil] at hq ⊢
    go_wp2
    go_ret
    exact ⟨_, rfl, ownG_nil _ _ _, Below.refl _ _⟩
  | some x =>
    simp only [Option.isNone_some] at hq
    have A1 : Hid (Below w.heap.size w (w.alloc (.cells #[] 9 (0, 0)))) := (Below.refl _ _).alloc (Nat.le_refl _) _
    have O1 : Hid (OwnG KE (w.alloc (.cells #[] 9 (0, 0))) w.heap.size 9 (.slice (some ⟨w.heap.size, 0, none⟩) 0 0) []) := ownG_none w w.heap.size 9 (Nat.le_refl _)
    have R1 := hide (HR.out.kept A1.out)
    have hb1 : Hid ((([] : List ByteArray).length + l.length) * 16 ≤ 140737488355328) := (show (0 + l.length) * 16 ≤ 140737488355328 by omega)
    have hb2 : Hid (([] : List ByteArray).length + l.length ≤ maxLen) := (show 0 + l.length ≤ maxLen by simp only [maxLen]; omega)
    go_wp2_with (first
      | (at_builtin; refine wpList_append_G (E := KE) _ rfl (.tmp 5) (.tmp 6) 47 47 rfl w.heap.size 9 (.string ⟨#[]⟩) 16 Try.underlying47 Try.info9 rfl _ _ rfl O1.out _ l rfl R1.out 9 Try.underlying47 hb1.out hb2.out A1.out.size ?_; intro v7 w7 o7 g7; have O7 := hide o7; have G7 := hide g7; clear o7 g7)
      | fail)
    go_ret
    have o7 := O7.out
    rw [List.nil_append] at o7
    exact ⟨v7, rfl, o7, A1.out.trans (below_of_grown _ O1.out G7.out A1.out.size)⟩
set_option maxHeartbeats 2000000 in
set_option maxRecDepth 100000 in
theorem copy_any {w : World} {D M : Nat} {vk : Value} {ks : List ByteArray} {s : SP} (h : StAt w D M vk ks s) (hN : ks.length ≤ 1000000) :
    Calls Try.prog 28 #[.pointer (some ⟨D, 0, none⟩)] w fun e w' => ∃ D1 M1 v1, e = .returned (.pointer (some ⟨D1, 0, none⟩)) ∧ StAt w' D1 M1 v1 ks s ∧ w.heap.size ≤ D1 ∧ w.heap.size ≤ M1 ∧ (∀ b, v1.ownBlock = some b → w.heap.size ≤ b) ∧ Below w.heap.size w w' := by
  have CMD := hide (sMade_any h.d)
  obtain ⟨ak, ck, rfl⟩ := h.kk.rd.slice
  obtain ⟨ch, la, fl⟩ := s
  have HS := hide h
  clear h
  obtain ⟨n, HN⟩ : ∃ n, Hid (ks.length = n) := ⟨_, rfl⟩
  rw [HN.out] at HS hN
  have hbd : ∀ (M1 : Nat) (a1 : Option Addr) (n1 c1 : Nat) W, (Instr.build 55 #[(0, .map (some M1)), (1, .slice a1 n1 c1), (2, .int .i64 la), (3, .int .i64 fl)]).run Try.prog W = .ok (.agg #[.map (some M1), .slice a1 n1 c1, .int .i64 la, .int .i64 fl]) W := fun M1 a1 n1 c1 W => by kernel_rfl
  go_enter Try.func28, Try.ntmps28
  go_wp2_with fail
  refine CMD.out.mono ?_
  rintro e w_ ⟨rfl, hw⟩
  subst w_
  go_wp2_with fail
  refine wp_region_inv Try.mixed (KS (fun i_ => match i_ with | 0 | 1 | 2 | 5 | 6 | 10 | 11 | 14 | 15 => .val (.pointer (some ⟨D, 0, none⟩)) | 3 => .val (.map (some M)) | 4 => .of (fun W x => ∃ M1, x = .map (some M1) ∧ w.heap.size ≤ M1 ∧ MapC W M1 ch n) (fun _ _ _ hg h => by obtain ⟨M1, h1, h2, h3⟩ := h; exact ⟨M1, h1, h2, h3.kept hg⟩) | 7 => .val (.pointer (some ⟨D, 1, none⟩)) | 8 => .val (.slice ak n ck) | 9 => .of (fun W x => OwnG KE W w.heap.size 9 x ks) (fun _ _ _ hg h => OwnG.kept h hg) | 12 => .val (.pointer (some ⟨D, 2, none⟩)) | 13 => .val (.int .i64 la) | 16 => .val (.pointer (some ⟨D, 3, none⟩)) | 17 => .val (.int .i64 fl) | 18 => .of (fun W x => ∃ M1 v1, x = .agg #[.map (some M1), v1, .int .i64 la, .int .i64 fl] ∧ w.heap.size ≤ M1 ∧ MapC W M1 ch n ∧ OwnG KE W w.heap.size 9 v1 ks) (fun _ _ _ hg h => by obtain ⟨M1, v1, h1, h2, h3, h4⟩ := h; exact ⟨M1, v1, h1, h2, h3.kept hg, h4.kept hg⟩) | 19 | 20 => .of (fun W x => ∃ D1 M1 v1, x = .pointer (some ⟨D1, 0, none⟩) ∧ w.heap.size ≤ D1 ∧ w.heap.size ≤ M1 ∧ Blk W D1 55 (SB M1 v1 la fl) ∧ MapC W M1 ch n ∧ OwnG KE W w.heap.size 9 v1 ks) (fun _ _ _ hg h => by obtain ⟨D1, M1, v1, h1, h2, h3, h4, h5, h6⟩ := h; exact ⟨D1, M1, v1, h1, h2, h3, h4.kept hg, h5.kept hg, h6.kept hg⟩) | _ => .free)) 26 rfl (by decide +kernel) (KS_mono _) ?_ ?_
  · refine AllFrom.cons (fun a' w' hg hk hd => ?_) (AllFrom.cons (fun a' w' hg hk hd => ?_) (AllFrom.cons (fun a' w' hg hk hd => ?_) (AllFrom.cons (fun a' w' hg hk hd => ?_) (AllFrom.cons (fun a' w' hg hk hd => ?_) (AllFrom.cons (fun a' w' hg hk hd => ?_) (AllFrom.cons (fun a' w' hg hk hd => ?_) (AllFrom.cons (fun a' w' hg hk hd => ?_) (AllFrom.cons (fun a' w' hg hk hd => ?_) (AllFrom.cons (fun a' w' hg hk hd => ?_) (AllFrom.cons (fun a' w' hg hk hd => ?_) (AllFrom.cons (fun a' w' hg hk hd => ?_) (AllFrom.cons (fun a' w' hg hk hd => ?_) (AllFrom.cons (fun a' w' hg hk hd => ?_) (AllFrom.cons (fun a' w' hg hk hd => ?_) (AllFrom.cons (fun a' w' hg hk hd => ?_) (AllFrom.cons (fun a' w' hg hk hd => ?_) (AllFrom.cons (fun a' w' hg hk hd => ?_) (AllFrom.cons (fun a' w' hg hk hd => ?_) (AllFrom.cons (fun a' w' hg hk hd => ?_) (AllFrom.cons (fun a' w' hg hk hd => ?_) AllFrom.nil))))))))))))))))))))
    · -- 0: Op.move (Operand.tmp 0)
      intro Q
      have e0 : a'.eval (.tmp 0) = .pointer (some ⟨D, 0, none⟩) := hk.at 0 (by decide +kernel)
      exact wp_value _ (by simp only [execOp, e0]; rfl) (KS_mkv rfl rfl)
    · -- 1: Op.nilCheck (Operand.tmp 6)
      intro Q
      have e6 : a'.eval (.tmp 6) = .pointer (some ⟨D, 0, none⟩) := KS_val (Deps.val hd 0 6 (by decide +kernel)) rfl
      clear hd hk
      exact wp_value (.pointer (some ⟨D, 0, none⟩)) (by simp only [execOp, e6]; go_simp) (KS_mkv rfl rfl)
    · -- 2: Op.fieldAddr 55 (Operand.tmp 7) 0
      intro Q
      have e7 : a'.eval (.tmp 7) = .pointer (some ⟨D, 0, none⟩) := KS_val (Deps.val hd 1 7 (by decide +kernel)) rfl
      clear hd hk
      exact wp_value (.pointer (some ⟨D, 0, none⟩)) (by simp only [execOp, e7]; go_simp) (KS_mkv rfl rfl)
    · -- 3: Op.load 53 (Operand.tmp 8)
      intro Q
      have e8 : a'.eval (.tmp 8) = .pointer (some ⟨D, 0, none⟩) := KS_val (Deps.val hd 2 8 (by decide +kernel)) rfl
      have c_ : w'.cell? ⟨D, 0, none⟩ = some (.map (some M)) := (HS.out.d.kept hg).cell (j := 0) rfl
      clear hd hk
      exact wp_value (.map (some M)) (by simp only [execOp, e8]; go_simp) (KS_mkv rfl rfl)
    · -- 4: Op.call ( callee := Callee.value (Operand.func 43), args := 
      intro Q
      have e9 : a'.eval (.tmp 9) = .map (some M) := KS_val (Deps.val hd 3 9 (by decide +kernel)) rfl
      refine wp_call 43 _ (run_enter 43 _ _ rfl (by kernel_rfl)) ?_
      simp only [List.map_toArray, List.map_nil, List.map_cons, e9]
      refine (cloneC_any (HS.out.mp.kept hg)).mono ?_
      rintro e_ w_ ⟨rfl, h1_, h2_⟩
      exact ⟨_, rfl, KS_mko rfl ⟨_, rfl, hg.size, by rw [← HN.out]; exact h1_⟩, h2_⟩
    · -- 5: Op.move (Operand.tmp 0)
      intro Q
      have e0 : a'.eval (.tmp 0) = .pointer (some ⟨D, 0, none⟩) := hk.at 0 (by decide +kernel)
      exact wp_value _ (by simp only [execOp, e0]; rfl) (KS_mkv rfl rfl)
    · -- 6: Op.nilCheck (Operand.tmp 11)
      intro Q
      have e11 : a'.eval (.tmp 11) = .pointer (some ⟨D, 0, none⟩) := KS_val (Deps.val hd 5 11 (by decide +kernel)) rfl
      clear hd hk
      exact wp_value (.pointer (some ⟨D, 0, none⟩)) (by simp only [execOp, e11]; go_simp) (KS_mkv rfl rfl)
    · -- 7: Op.fieldAddr 55 (Operand.tmp 12) 1
      intro Q
      have e12 : a'.eval (.tmp 12) = .pointer (some ⟨D, 0, none⟩) := KS_val (Deps.val hd 6 12 (by decide +kernel)) rfl
      clear hd hk
      exact wp_value (.pointer (some ⟨D, 1, none⟩)) (by simp only [execOp, e12]; go_simp) (KS_mkv rfl rfl)
    · -- 8: Op.load 47 (Operand.tmp 13)
      intro Q
      have e13 : a'.eval (.tmp 13) = .pointer (some ⟨D, 1, none⟩) := KS_val (Deps.val hd 7 13 (by decide +kernel)) rfl
      have c_ : w'.cell? ⟨D, 1, none⟩ = some (.slice ak n ck) := (HS.out.d.kept hg).cell (j := 1) rfl
      clear hd hk
      exact wp_value (.slice ak n ck) (by simp only [execOp, e13]; go_simp) (KS_mkv rfl rfl)
    · -- 9: Op.call ( callee := Callee.value (Operand.func 44), args := 
      intro Q
      have e14 : a'.eval (.tmp 14) = .slice ak n ck := KS_val (Deps.val hd 8 14 (by decide +kernel)) rfl
      refine wp_call 44 _ (run_enter 44 _ _ rfl (by kernel_rfl)) ?_
      simp only [List.map_toArray, List.map_nil, List.map_cons, e14]
      refine (cloneK_any (HS.out.kk.rd.kept hg) (by rw [HN.out]; omega)).mono ?_
      rintro e_ w_ ⟨v_, rfl, h1_, h2_⟩
      exact ⟨_, rfl, KS_mko rfl (h1_.mono hg.size), h2_⟩
    · -- 10: Op.move (Operand.tmp 0)
      intro Q
      have e0 : a'.eval (.tmp 0) = .pointer (some ⟨D, 0, none⟩) := hk.at 0 (by decide +kernel)
      exact wp_value _ (by simp only [execOp, e0]; rfl) (KS_mkv rfl rfl)
    · -- 11: Op.nilCheck (Operand.tmp 16)
      intro Q
      have e16 : a'.eval (.tmp 16) = .pointer (some ⟨D, 0, none⟩) := KS_val (Deps.val hd 10 16 (by decide +kernel)) rfl
      clear hd hk
      exact wp_value (.pointer (some ⟨D, 0, none⟩)) (by simp only [execOp, e16]; go_simp) (KS_mkv rfl rfl)
    · -- 12: Op.fieldAddr 55 (Operand.tmp 17) 2
      intro Q
      have e17 : a'.eval (.tmp 17) = .pointer (some ⟨D, 0, none⟩) := KS_val (Deps.val hd 11 17 (by decide +kernel)) rfl
      clear hd hk
      exact wp_value (.pointer (some ⟨D, 2, none⟩)) (by simp only [execOp, e17]; go_simp) (KS_mkv rfl rfl)
    · -- 13: Op.load 3 (Operand.tmp 18)
      intro Q
      have e18 : a'.eval (.tmp 18) = .pointer (some ⟨D, 2, none⟩) := KS_val (Deps.val hd 12 18 (by decide +kernel)) rfl
      have c_ : w'.cell? ⟨D, 2, none⟩ = some (.int .i64 la) := (HS.out.d.kept hg).cell (j := 2) rfl
      clear hd hk
      exact wp_value (.int .i64 la) (by simp only [execOp, e18]; go_simp) (KS_mkv rfl rfl)
    · -- 14: Op.move (Operand.tmp 0)
      intro Q
      have e0 : a'.eval (.tmp 0) = .pointer (some ⟨D, 0, none⟩) := hk.at 0 (by decide +kernel)
      exact wp_value _ (by simp only [execOp, e0]; rfl) (KS_mkv rfl rfl)
    · -- 15: Op.nilCheck (Operand.tmp 20)
      intro Q
      have e20 : a'.eval (.tmp 20) = .pointer (some ⟨D, 0, none⟩) := KS_val (Deps.val hd 14 20 (by decide +kernel)) rfl
      clear hd hk
      exact wp_value (.pointer (some ⟨D, 0, none⟩)) (by simp only [execOp, e20]; go_simp) (KS_mkv rfl rfl)
    · -- 16: Op.fieldAddr 55 (Operand.tmp 21) 3
      intro Q
      have e21 : a'.eval (.tmp 21) = .pointer (some ⟨D, 0, none⟩) := KS_val (Deps.val hd 15 21 (by decide +kernel)) rfl
      clear hd hk
      exact wp_value (.pointer (some ⟨D, 3, none⟩)) (by simp only [execOp, e21]; go_simp) (KS_mkv rfl rfl)
    · -- 17: Op.load 3 (Operand.tmp 22)
      intro Q
      have e22 : a'.eval (.tmp 22) = .pointer (some ⟨D, 3, none⟩) := KS_val (Deps.val hd 16 22 (by decide +kernel)) rfl
      have c_ : w'.cell? ⟨D, 3, none⟩ = some (.int .i64 fl) := (HS.out.d.kept hg).cell (j := 3) rfl
      clear hd hk
      exact wp_value (.int .i64 fl) (by simp only [execOp, e22]; go_simp) (KS_mkv rfl rfl)
    · -- 18: Op.build 55 #[(0, Operand.tmp 10), (1, Operand.tmp 15), (2, 
      intro Q
      have r10 := KS_of (Deps.val hd 4 10 (by decide +kernel)) rfl
      have r15 := KS_of (Deps.val hd 9 15 (by decide +kernel)) rfl
      have e19 : a'.eval (.tmp 19) = .int .i64 la := KS_val (Deps.val hd 13 19 (by decide +kernel)) rfl
      have e23 : a'.eval (.tmp 23) = .int .i64 fl := KS_val (Deps.val hd 17 23 (by decide +kernel)) rfl
      obtain ⟨M1, e10, hm1, hm2⟩ := r10
      obtain ⟨a1, c1, e15⟩ := r15.rd.slice
      rw [e15] at r15
      exact wp_value (.agg #[.map (some M1), .slice a1 ks.length c1, .int .i64 la, .int .i64 fl]) (by simp only [execOp, List.map_toArray, List.map_cons, List.map_nil, e10, e15, e19, e23, hbd, Sem.run_bind, Sem.run_pure, Result.andThen_ok]) (KS_mko rfl ⟨M1, _, rfl, hm1, hm2, r15⟩)
    · -- 19: Op.box 55 (Operand.tmp 24)
      intro Q
      have r24 := KS_of (Deps.val hd 18 24 (by decide +kernel)) rfl
      obtain ⟨M1, v1, e24, h2, h3, h4⟩ := r24
      obtain ⟨a1, c1, rfl⟩ := h4.rd.slice
      refine wp_grow (.pointer (some ⟨w'.heap.size, 0, none⟩)) (w'.alloc (.cells (SB M1 (.slice a1 ks.length c1) la fl).toArray 55 (0, 0))) ?_ ((Below.refl _ _).alloc (Nat.le_refl _) _) (KS_mko rfl ⟨_, M1, _, rfl, Nat.le_trans (Nat.le_refl _) hg.size, h2, Blk.new w' 55 _, h3.kept ((Below.refl _ _).alloc (Nat.le_refl _) _), h4.kept ((Below.refl _ _).alloc (Nat.le_refl _) _)⟩)
      simp only [execOp, e24]
      go_simp
      rfl
    · -- 20: Op.assign (Operand.tmp 25)
      intro Q
      have r25 := KS_of (Deps.val hd 19 25 (by decide +kernel)) rfl
      exact wp_value (a'.eval (.tmp 25)) (by simp only [execOp]; rfl) (KS_mko rfl r25)
  · intro a' w5 hsz hdf hk hall hg
    have e6 : a'.eval (.tmp 6) = .pointer (some ⟨D, 0, none⟩) := KS_val (hall 0 _ 6 rfl rfl) rfl
    have e7 : a'.eval (.tmp 7) = .pointer (some ⟨D, 0, none⟩) := KS_val (hall 1 _ 7 rfl rfl) rfl
    have e8 : a'.eval (.tmp 8) = .pointer (some ⟨D, 0, none⟩) := KS_val (hall 2 _ 8 rfl rfl) rfl
    have e9 : a'.eval (.tmp 9) = .map (some M) := KS_val (hall 3 _ 9 rfl rfl) rfl
    have r10 := KS_of (hall 4 _ 10 rfl rfl) rfl
    obtain ⟨x10, e10⟩ : ∃ v, a'.eval (.tmp 10) = v := ⟨_, rfl⟩
    rw [e10] at r10
    have e11 : a'.eval (.tmp 11) = .pointer (some ⟨D, 0, none⟩) := KS_val (hall 5 _ 11 rfl rfl) rfl
    have e12 : a'.eval (.tmp 12) = .pointer (some ⟨D, 0, none⟩) := KS_val (hall 6 _ 12 rfl rfl) rfl
    have e13 : a'.eval (.tmp 13) = .pointer (some ⟨D, 1, none⟩) := KS_val (hall 7 _ 13 rfl rfl) rfl
    have e14 : a'.eval (.tmp 14) = .slice ak n ck := KS_val (hall 8 _ 14 rfl rfl) rfl
    have r15 := KS_of (hall 9 _ 15 rfl rfl) rfl
    obtain ⟨x15, e15⟩ : ∃ v, a'.eval (.tmp 15) = v := ⟨_, rfl⟩
    rw [e15] at r15
    have e16 : a'.eval (.tmp 16) = .pointer (some ⟨D, 0, none⟩) := KS_val (hall 10 _ 16 rfl rfl) rfl
    have e17 : a'.eval (.tmp 17) = .pointer (some ⟨D, 0, none⟩) := KS_val (hall 11 _ 17 rfl rfl) rfl
    have e18 : a'.eval (.tmp 18) = .pointer (some ⟨D, 2, none⟩) := KS_val (hall 12 _ 18 rfl rfl) rfl
    have e19 : a'.eval (.tmp 19) = .int .i64 la := KS_val (hall 13 _ 19 rfl rfl) rfl
    have e20 : a'.eval (.tmp 20) = .pointer (some ⟨D, 0, none⟩) := KS_val (hall 14 _ 20 rfl rfl) rfl
    have e21 : a'.eval (.tmp 21) = .pointer (some ⟨D, 0, none⟩) := KS_val (hall 15 _ 21 rfl rfl) rfl
    have e22 : a'.eval (.tmp 22) = .pointer (some ⟨D, 3, none⟩) := KS_val (hall 16 _ 22 rfl rfl) rfl
    have e23 : a'.eval (.tmp 23) = .int .i64 fl := KS_val (hall 17 _ 23 rfl rfl) rfl
    have r24 := KS_of (hall 18 _ 24 rfl rfl) rfl
    obtain ⟨x24, e24⟩ : ∃ v, a'.eval (.tmp 24) = v := ⟨_, rfl⟩
    rw [e24] at r24
    have r25 := KS_of (hall 19 _ 25 rfl rfl) rfl
    obtain ⟨x25, e25⟩ : ∃ v, a'.eval (.tmp 25) = v := ⟨_, rfl⟩
    rw [e25] at r25
    have r2 := KS_of (hall 20 _ 2 rfl rfl) rfl
    obtain ⟨x2, e2⟩ : ∃ v, a'.eval (.tmp 2) = v := ⟨_, rfl⟩
    rw [e2] at r2
    have ha := act_puts 26 rfl hsz hdf hk [6, 7, 8, 9, 10, 11, 12, 13, 14, 15, 16, 17, 18, 19, 20, 21, 22, 23, 24, 25, 2] (by decide +kernel)
    simp only [puts, List.foldl_cons, List.foldl_nil, e6, e7, e8, e9, e10, e11, e12, e13, e14, e15, e16, e17, e18, e19, e20, e21, e22, e23, e24, e25, e2] at ha
    simp only [Act.put, List.setIfInBounds_toArray, List.set_cons_succ, List.set_cons_zero] at ha
    clear hall hk hsz hdf r10 r15 r24 r25 hbd e6 e7 e8 e9 e10 e11 e12 e13 e14 e15 e16 e17 e18 e19 e20 e21 e22 e23 e24 e25 e2
    subst ha
    obtain ⟨D1, M1, v1, rfl, h1, h2, h3, h4, h5⟩ := r2
    have HI : Hid (StAt w5 D1 M1 v1 ks ⟨ch, la, fl⟩) := ⟨h3, by rw [HN.out]; exact h4, h5.mono (Nat.zero_le _), HS.out.inv, HS.out.sz⟩
    have HO := hide h5
    have G5 := hide hg
    clear h3 h4 h5 hg
    go_wp2_with fail
    go_ret
    exact ⟨D1, M1, v1, rfl, HI.out, h1, h2, fun b hb => (HO.out.block hb).1, G5.out⟩
#print axioms copy_any
end Go.Proofs.Ytgaoionnfkbhaaa
