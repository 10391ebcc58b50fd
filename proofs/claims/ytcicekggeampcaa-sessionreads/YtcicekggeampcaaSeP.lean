/-
  package session: Put, Drop: what the calls do.
-/
import Derived.Test.YtcicekggeampcaaSeE
namespace Go.Proofs.Ytcicekggeampcaa
open Go.RowKit
/-- What a write answers, and the transaction behind it. -/
def putT (t : Tx) (p : Pr) : Int × Tx := if 64 ≤ t.ops then (13, t) else (wrE t.W p, { t.more with W := wrB t.W p })
set_option maxHeartbeats 1000000 in
set_option maxRecDepth 100000 in
theorem zPut_any {w0 w : World} {D i : Nat} {s : SP} {X : Nat} {id : Int} {b : Tb} {t : Tx} (h : Duo w0 w D i s X id (some (b, t))) (k v : ByteArray) (hk : k.size ≤ maxLen) :
    Calls Try.prog 22 #[PT X, .string k, .string v] w fun e w' => ActPost w0 w D i s X id b t (putT t (k, v, false)).2 (.int .i64 (putT t (k, v, false)).1) e w' := by
  have H := hide h
  have CA := hide (zAct_any h.ss)
  obtain ⟨⟨r, t'⟩, HR⟩ : ∃ r, Hid (putT t (k, v, false) = r) := ⟨_, rfl⟩
  rw [HR.out]
  simp only
  clear h
  go_enter Try.func22, Try.ntmps22
  go_wp2_with fail
  refine CA.out.mono ?_
  rintro e w1 (⟨hm, rfl, hw⟩ | ⟨hm, rfl, S1, C1⟩)
  · subst w1
    have hg := HR.out
    unfold putT at hg
    rw [if_pos hm] at hg
    cases hg
    go_wp2_with fail
    go_ret
    exact ⟨rfl, b, H.out, Chg.refl _ _, rfl, fun k hk => .inl hk⟩
  · have D1 : Hid (Duo w0 w1 D i s X id (some (b, t.more))) := (show Duo _ _ _ _ _ _ _ _ from H.out.step S1 C1 (fun k hk => .inr (.inl hk)) (fun k hk => .inl hk))
    have K1 : Hid (Chg (SG X (some (b, t))) w w1) := (show Chg _ _ _ from C1.mono (fun k _ hk => .inr (.inl hk)))
    have HG : Hid (r = wrE t.W (k, v, false) ∧ t' = { t.more with W := wrB t.W (k, v, false) }) := (show _ ∧ _ by
      have hg := HR.out
      unfold putT at hg
      rw [if_neg (by omega)] at hg
      obtain ⟨h1, h2⟩ := Prod.mk.inj hg
      exact ⟨h1.symm, h2.symm⟩)
    clear S1 C1 hm CA
    have T1 := hide (D1.out.ss.tx b t.more rfl)
    have c1 := D1.out.ss.x.cell (j := 1) rfl
    have d4 := T1.out.d.cell (j := 4) rfl
    simp only [SPt] at c1
    obtain ⟨bT, HbT⟩ : ∃ z, Hid (b.T = z) := ⟨_, rfl⟩
    obtain ⟨bD, HbD⟩ : ∃ z, Hid (b.D = z) := ⟨_, rfl⟩
    have CB := hide (bPut_any T1.out.buf k v hk)
    rw [show wrE t.more.W (k, v, false) = r from HG.out.1.symm, HbD.out] at CB
    rw [HbT.out] at c1 d4
    rw [HbD.out] at d4
    go_wp2_with fail
    refine CB.out.mono ?_
    rintro e w2 ⟨rfl, hB, hC⟩
    have B2 := hide hB
    have C2 := hide hC
    clear hB hC
    go_wp2_with fail
    go_ret
    have T2 := T1.out.setM C2.out (by rw [HbD.out]; exact B2.out)
    have D2 := D1.out.tx T2 (C2.out.mono (fun k _ hk => .inr (.inr (.inl hk)))) rfl (fun j hj => .inl hj)
    rw [HG.out.2]
    exact ⟨rfl, b, D2, K1.out.trans (C2.out.mono (fun k _ hk => .inr (.inr (.inr (.inl hk))))), rfl, fun k hk => .inl hk⟩
set_option maxHeartbeats 1000000 in
set_option maxRecDepth 100000 in
theorem zDrop_any {w0 w : World} {D i : Nat} {s : SP} {X : Nat} {id : Int} {b : Tb} {t : Tx} (h : Duo w0 w D i s X id (some (b, t))) (k : ByteArray) (hk : k.size ≤ maxLen) :
    Calls Try.prog 20 #[PT X, .string k] w fun e w' => ActPost w0 w D i s X id b t (putT t (k, em, true)).2 (.int .i64 (putT t (k, em, true)).1) e w' := by
  have H := hide h
  have CA := hide (zAct_any h.ss)
  obtain ⟨⟨r, t'⟩, HR⟩ : ∃ r, Hid (putT t (k, em, true) = r) := ⟨_, rfl⟩
  rw [HR.out]
  simp only
  clear h
  go_enter Try.func20, Try.ntmps20
  go_wp2_with fail
  refine CA.out.mono ?_
  rintro e w1 (⟨hm, rfl, hw⟩ | ⟨hm, rfl, S1, C1⟩)
  · subst w1
    have hg := HR.out
    unfold putT at hg
    rw [if_pos hm] at hg
    cases hg
    go_wp2_with fail
    go_ret
    exact ⟨rfl, b, H.out, Chg.refl _ _, rfl, fun k hk => .inl hk⟩
  · have D1 : Hid (Duo w0 w1 D i s X id (some (b, t.more))) := (show Duo _ _ _ _ _ _ _ _ from H.out.step S1 C1 (fun k hk => .inr (.inl hk)) (fun k hk => .inl hk))
    have K1 : Hid (Chg (SG X (some (b, t))) w w1) := (show Chg _ _ _ from C1.mono (fun k _ hk => .inr (.inl hk)))
    have HG : Hid (r = wrE t.W (k, em, true) ∧ t' = { t.more with W := wrB t.W (k, em, true) }) := (show _ ∧ _ by
      have hg := HR.out
      unfold putT at hg
      rw [if_neg (by omega)] at hg
      obtain ⟨h1, h2⟩ := Prod.mk.inj hg
      exact ⟨h1.symm, h2.symm⟩)
    clear S1 C1 hm CA
    have T1 := hide (D1.out.ss.tx b t.more rfl)
    have c1 := D1.out.ss.x.cell (j := 1) rfl
    have d4 := T1.out.d.cell (j := 4) rfl
    simp only [SPt] at c1
    obtain ⟨bT, HbT⟩ : ∃ z, Hid (b.T = z) := ⟨_, rfl⟩
    obtain ⟨bD, HbD⟩ : ∃ z, Hid (b.D = z) := ⟨_, rfl⟩
    have CB := hide (bDrop_any T1.out.buf k hk)
    rw [show wrE t.more.W (k, em, true) = r from HG.out.1.symm, HbD.out] at CB
    rw [HbT.out] at c1 d4
    rw [HbD.out] at d4
    go_wp2_with fail
    refine CB.out.mono ?_
    rintro e w2 ⟨rfl, hB, hC⟩
    have B2 := hide hB
    have C2 := hide hC
    clear hB hC
    go_wp2_with fail
    go_ret
    have T2 := T1.out.setM C2.out (by rw [HbD.out]; exact B2.out)
    have D2 := D1.out.tx T2 (C2.out.mono (fun k _ hk => .inr (.inr (.inl hk)))) rfl (fun j hj => .inl hj)
    rw [HG.out.2]
    exact ⟨rfl, b, D2, K1.out.trans (C2.out.mono (fun k _ hk => .inr (.inr (.inr (.inl hk))))), rfl, fun k hk => .inl hk⟩
end Go.Proofs.Ytcicekggeampcaa
