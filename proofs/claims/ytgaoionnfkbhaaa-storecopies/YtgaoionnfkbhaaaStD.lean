/-
  Collect: what the call does.
-/
import Derived.Test.YtgaoionnfkbhaaaStX
namespace Go.Proofs.Ytgaoionnfkbhaaa
open Go.RowKit
/-- m[k] = c, in a walk. -/
theorem wpList_chput {w : World} {ops : Array Oper} {rest : List Oper} {op : Oper} {a : Act} {Q : Exit → Act → World → Prop} (hg : op.guard = none) (m x v : Operand) (hop : op.op = Op.mapUpdate 53 m x v)
    (M N : Nat) (ch : ByteArray → List Ver) (hm : a.eval m = .map (some M)) (h : MapC w M ch N) (hN : N ≤ 1000000) (k : ByteArray) (hk : k.size ≤ maxLen) (hx : a.eval x = .string k) (u : Value) (L : List Ver) (hv : a.eval v = u) (ho : OwnV w 0 76 u L) (hL : L ≠ [])
    (hK : ∀ w', MapC w' M (fun j => if j = k then L else ch j) (if (ch k).isEmpty then N + 1 else N) → w.mapTurned w' M → wpList Try.prog ops Q rest (a.put op.dst undef) w') : wpList Try.prog ops Q (op :: rest) a w := by
  refine wpList_plain hg fun K hK' => ?_
  obtain ⟨w', hrun, h1, h2⟩ := h.put hN k hk ho hL
  unfold Oper.wp
  simp [execOp, hop, hm, hx, hv, hrun, Result.andThen]
  exact hK' _ _ (hK w' h1 h2)
/-- delete(m, k), in a walk. -/
theorem wpList_chdel {w : World} {ops : Array Oper} {rest : List Oper} {op : Oper} {a : Act} {Q : Exit → Act → World → Prop} (hg : op.guard = none) (m x : Operand) (hop : op.op = Op.call { callee := Callee.builtin Builtin.delete, args := #[m, x], argTypes := #[53, 9] })
    (M N : Nat) (ch : ByteArray → List Ver) (hm : a.eval m = .map (some M)) (h : MapC w M ch N) (k : ByteArray) (hk : k.size ≤ maxLen) (hx : a.eval x = .string k)
    (hK : ∀ w', MapC w' M (fun j => if j = k then [] else ch j) (if (ch k).isEmpty then N else N - 1) → w.mapTurned w' M → wpList Try.prog ops Q rest (a.put op.dst (.tuple #[])) w') : wpList Try.prog ops Q (op :: rest) a w := by
  refine wpList_plain hg fun K hK' => ?_
  obtain ⟨w', hrun, h1, h2⟩ := h.del k hk op.type
  unfold Oper.wp
  simp [execOp, resolve, invoke, builtin, hop, hm, hx, hrun, Result.andThen]
  exact hK' _ _ (hK w' h1 h2)
theorem trimP_nil (n : Int) : trimP [] n = [] := rfl
/-- The chains, the first keys of which are trimmed. -/
def colC (ch : ByteArray → List Ver) (n : Int) (l : List ByteArray) : ByteArray → List Ver := fun k => if (l.any fun x => decide (x = k)) = true then trimP (ch k) n else ch k
/-- The keys that are left. -/
def colK (ch : ByteArray → List Ver) (n : Int) (l : List ByteArray) : List ByteArray := l.filter fun k => !(trimP (ch k) n).isEmpty
theorem colC_snoc {ch : ByteArray → List Ver} {n : Int} {l : List ByteArray} {k : ByteArray} : (fun j => if j = k then trimP (ch k) n else colC ch n l j) = colC ch n (l ++ [k]) := by
  funext j
  unfold colC
  by_cases h : j = k
  · subst h
    simp
  · have h' : ¬ k = j := fun e => h e.symm
    have e : ((l ++ [k]).any fun x => decide (x = j)) = l.any fun x => decide (x = j) := by
      rw [List.any_append, List.any_cons, List.any_nil, decide_eq_false h']
      simp
    rw [if_neg h, e]
theorem any_mem {l : List ByteArray} {k : ByteArray} : (l.any fun x => decide (x = k)) = true ↔ k ∈ l := by
  rw [List.any_eq_true]
  constructor
  · rintro ⟨x, hx, h⟩
    rw [decide_eq_true_eq] at h
    exact h ▸ hx
  · exact fun h => ⟨k, h, by simp⟩
theorem colK_snoc (ch : ByteArray → List Ver) (n : Int) (l : List ByteArray) (k : ByteArray) : colK ch n (l ++ [k]) = colK ch n l ++ if (trimP (ch k) n).isEmpty = true then [] else [k] := by
  unfold colK
  rw [List.filter_append]
  congr 1
  cases h : (trimP (ch k) n).isEmpty <;> simp [h]
theorem colK_len (ch : ByteArray → List Ver) (n : Int) (l : List ByteArray) : (colK ch n l).length ≤ l.length := List.length_filter_le _ _
theorem trim_sub {L : List Ver} {n : Int} {v : Ver} (h : v ∈ trimP L n) : v ∈ L := by
  unfold trimP at h
  split at h
  · rcases List.mem_append.1 h with h | h
    · exact (List.mem_filter.1 (mem_live h)).1
    · exact (List.mem_filter.1 h).1
  · cases h
theorem coll_inv {s : SP} {ks : List ByteArray} (h : Inv s ks) {n : Int} (h1 : s.floor ≤ n) (h2 : n ≤ s.last) : Inv ⟨fun k => trimP (s.ch k) n, s.last, n⟩ (colK s.ch n ks) := by
  refine ⟨List.Pairwise.sublist List.filter_sublist h.srt, fun k => ?_, fun k => trim_good (h.good k) n, fun k v hv => h.le k v (trim_sub hv), Int.le_trans h.fl h1, h2⟩
  unfold colK
  rw [List.mem_filter, h.mem k]
  constructor
  · rintro ⟨-, h3⟩
    intro e
    rw [show trimP (s.ch k) n = [] from e] at h3
    cases h3
  · intro h3
    refine ⟨fun e => h3 (by show trimP (s.ch k) n = []; rw [e]; rfl), ?_⟩
    cases hq : trimP (s.ch k) n with
    | nil => exact absurd hq h3
    | cons a b => rfl
theorem colC_all {s : SP} {ks : List ByteArray} (h : Inv s ks) (n : Int) : colC s.ch n ks = fun k => trimP (s.ch k) n := by
  funext k
  unfold colC
  by_cases hk : k ∈ ks
  · rw [if_pos (any_mem.2 hk)]
  · rw [if_neg (fun e => hk (any_mem.1 e))]
    have : s.ch k = [] := by
      cases hq : s.ch k with
      | nil => rfl
      | cons a b => exact absurd ((h.mem k).2 (by rw [hq]; simp)) hk
    rw [this]
    rfl
/-- What is kept while keys are collected. -/
structure ColI (w : World) (D M : Nat) (vk : Value) (ks : List ByteArray) (ch : ByteArray → List Ver) (la n : Int) (i : Nat) (vf : Value) (wr : World) : Prop where
  d : Blk wr D 55 (SB M vk la n)
  k : OwnG KE wr 0 9 vk ks
  m : MapC wr M (colC ch n (ks.take i)) ((colK ch n (ks.take i)).length + (ks.length - i))
  f : OwnG KE wr w.heap.size 9 vf (colK ch n (ks.take i))
  c : Chg (fun b => b = D ∨ b = M) w wr
theorem ColI.kept {w : World} {D M : Nat} {vk : Value} {ks : List ByteArray} {ch : ByteArray → List Ver} {la n : Int} {i : Nat} {vf : Value} {wr wr' : World} (h : ColI w D M vk ks ch la n i vf wr) (hb : Below wr.heap.size wr wr') : ColI w D M vk ks ch la n i vf wr' :=
  ⟨h.d.kept hb, h.k.kept hb, h.m.kept hb, h.f.kept hb, h.c.trans (Chg.of_below hb)⟩
set_option maxRecDepth 100000 in
set_option maxHeartbeats 4000000 in
theorem collect_any {w : World} {D M : Nat} {vk : Value} {ks : List ByteArray} {s : SP} (h : StAt w D M vk ks s) (hN : ks.length ≤ 1000000) (hla : s.last ≤ 1000000) (n : Int) :
    Calls Try.prog 25 #[.pointer (some ⟨D, 0, none⟩), .int .i64 n] w fun e w' => e = .returned (.int .i64 (if collOk s n = true then 0 else 2)) ∧ ∃ vk' ks', StAt w' D M vk' ks' (collP s n) ∧ ks'.length ≤ ks.length ∧
      Chg (Mine D M vk) w w' ∧ (∀ b, vk'.ownBlock = some b → vk.ownBlock = some b ∨ w.heap.size ≤ b) := by
  have HS := hide h
  obtain ⟨ch, la, fl⟩ := s
  simp only at hla
  obtain ⟨a, cp, rfl⟩ := h.kk.rd.slice
  have c2 := h.d.cell (j := 2) rfl
  have c3 := h.d.cell (j := 3) rfl
  have f3 := h.d.frozen 3
  simp only at c2 c3
  clear h
  obtain ⟨m, HM⟩ : ∃ m, Hid (ks.length = m) := ⟨_, rfl⟩
  rw [HM.out] at HS hN ⊢
  obtain ⟨er, HER⟩ : ∃ x : Int, Hid ((if collOk ⟨ch, la, fl⟩ n = true then 0 else 2) = x) := ⟨_, rfl⟩
  obtain ⟨s', HS'⟩ : ∃ x, Hid (collP ⟨ch, la, fl⟩ n = x) := ⟨_, rfl⟩
  rw [HER.out, HS'.out]
  have hno : Hid (collOk ⟨ch, la, fl⟩ n = false → er = 2 ∧ s' = ⟨ch, la, fl⟩) := (show _ → _ from fun hq => ⟨by rw [← HER.out, hq]; rfl, by rw [← HS'.out]; unfold collP; rw [hq]; rfl⟩)
  go_enter Try.func25, Try.ntmps25
  go_wp2_with fail
  refine (sMade_any HS.out.d).mono ?_
  rintro e w1 ⟨rfl, hw⟩
  subst w1
  by_cases h1 : n < fl
  · have q1 : decide (n < fl) = true := by simp [h1]
    obtain ⟨he, hs⟩ := hno.out (by unfold collOk; simp; omega)
    go_wp2_with fail
    go_ret
    exact ⟨by rw [he]; rfl, _, ks, by rw [hs]; exact HS.out, by rw [HM.out]; exact Nat.le_refl _, Chg.refl _ _, fun b hb => .inl hb⟩
  · have q1 : decide (n < fl) = false := by simp; omega
    by_cases h2 : la < n
    · have q2 : decide (la < n) = true := by simp [h2]
      obtain ⟨he, hs⟩ := hno.out (by unfold collOk; simp; omega)
      go_wp2_with fail
      go_ret
      exact ⟨by rw [he]; rfl, _, ks, by rw [hs]; exact HS.out, by rw [HM.out]; exact Nat.le_refl _, Chg.refl _ _, fun b hb => .inl hb⟩
    · have q2 : decide (la < n) = false := by simp; omega
      have hok : collOk ⟨ch, la, fl⟩ n = true := by unfold collOk; simp; omega
      have HOK := hide hok
      clear hok hno
      have hset := hide (HS.out.d.set 3 (.int .i64 n))
      have hcs : Hid (Chg (fun b => b = D ∨ b = M) w (w.setCell ⟨D, 3, none⟩ (.int .i64 n))) := Chg.setCell _ (.inl rfl) 3 _
      have hDM : D ≠ M := HS.out.ne
      have I0 : Hid (ColI w D M (.slice a m cp) ks ch la n 0 (.slice none 0 0) (w.setCell ⟨D, 3, none⟩ (.int .i64 n))) := (show ColI _ _ _ _ _ _ _ _ _ _ _ by
        have hc : Chg (fun b => b = D) w (w.setCell ⟨D, 3, none⟩ (.int .i64 n)) := Chg.setCell (F := fun b => b = D) _ (b := D) rfl 3 _
        refine ⟨hset.out, HS.out.kk.chg hc (fun b hb e => (HS.out.kd hb).1 e), ?_, ownG_nil _ _ _, hcs.out⟩
        have e0 : colC ch n (ks.take 0) = ch := by funext k; simp [colC]
        rw [e0]
        have := HS.out.mp.chg hc (fun e => hDM e.symm) (fun b cur hb e => by
          have := HS.out.d
          unfold Blk at this
          rw [← e, hb] at this
          cases this)
        simpa [colK] using this)
      have c1' := I0.out.d.cell (j := 1) rfl
      go_wp2_with fail
      generalize w.setCell ⟨D, 3, none⟩ (.int .i64 n) = w1 at I0 c1' ⊢
      clear hset hcs
      go_loopg [5, 35] m (fun g y x wr => ∃ (i : Nat) (vf : Value), g + i = m ∧ y = vf ∧ x = .int .i64 (i : Int) ∧ Hid (ColI w D M (.slice a m cp) ks ch la n i vf wr))
      case atStart => exact ⟨0, _, by omega, rfl, rfl, I0⟩
      case round =>
        obtain ⟨i, vf, hgi, rfl, rfl, HR⟩ := hrel
        by_cases hlt : i < m
        · have q3 : (i : Int) < (m : Int) := by omega
          obtain ⟨b, off, rfl, hlb, hx⟩ := HR.out.k.rd.nth (by omega)
          have hmk : i < ks.length := by rw [HM.out]; exact hlt
          have ck : wr.cell? ⟨b, off + i, none⟩ = some (.string ks[i]) := by
            have := hx i hmk 0 _ rfl
            simpa [KE] using this
          obtain ⟨ky, HKY⟩ : ∃ k, Hid (ks[i] = k) := ⟨ks[i], (show ks[i] = ks[i] from rfl)⟩
          rw [HKY.out] at ck
          have hmem : ky ∈ ks := by rw [← HKY.out]; exact List.getElem_mem hmk
          have hks : ky.size ≤ maxLen := by have := HS.out.sz ky hmem; simp only [maxLen]; omega
          have hnt : Hid (ky ∉ ks.take i) := (show ky ∉ ks.take i from fun e => by
            obtain ⟨j, hj, he⟩ := List.getElem_of_mem e
            rw [List.length_take] at hj
            rw [List.getElem_take] at he
            have := (List.pairwise_iff_getElem.1 HS.out.inv.srt) j i (by omega) hmk (by omega)
            rw [he, HKY.out, lt_irrefl] at this
            cases this)
          have hcc : Hid (colC ch n (ks.take i) ky = ch ky) := (show _ = _ by unfold colC; rw [if_neg (fun e => hnt.out (any_mem.1 e))])
          have hne : Hid ((ch ky).isEmpty = false) := (show _ = _ by
            have := (HS.out.inv.mem ky).1 hmem
            cases hq : ch ky with
            | nil => exact absurd hq this
            | cons x y => rfl)
          have htk : Hid (ks.take (i + 1) = ks.take i ++ [ky]) := (show _ = _ by rw [List.take_succ_eq_append_getElem hmk, HKY.out])
          obtain ⟨vc, hvc, -, hlk⟩ := HR.out.m.look_all ky hks
          rw [hcc.out] at hvc
          have hlk' := hlk wr (Below.refl _ _)
          have c0 := HR.out.d.cell (j := 0) rfl
          have hlen : Hid ((ch ky).length ≤ 4398046511104) := (show (ch ky).length ≤ 4398046511104 by have h3 : ((ch ky).length : Int) ≤ la := HS.out.inv.len ky; omega)
          have HT := hide (trim_any hvc.rd hlen.out n)
          clear hx hlk hvc
          go_wp2_with fail
          refine HT.out.mono ?_
          rintro e w5 ⟨v5, rfl, ho5, hb5⟩
          obtain ⟨a5, n5, cp5, hv5⟩ : ∃ a n c, v5 = .slice a n c := by obtain ⟨x, y, h⟩ := ho5.rd.slice; exact ⟨_, _, _, h⟩
          subst hv5
          have HN5 := hide ho5.rd.len
          have O5 := hide (ho5.mono (Nat.zero_le _))
          have I5 := hide (HR.out.kept hb5)
          have c0' := I5.out.d.cell (j := 0) rfl
          clear HT ho5 hb5 hlk' c0 ck
          by_cases hz : n5 = 0
          · subst hz
            have hnil : Hid (trimP (ch ky) n = []) := (show _ = _ from List.eq_nil_of_length_eq_zero HN5.out)
            go_wp2_with (first
              | (at_delete; refine wpList_chdel rfl _ _ rfl M _ _ rfl I5.out.m ky hks rfl ?_; intro w6 m6 t6; have M6 := hide m6; have T6 := hide t6; clear m6 t6)
              | fail)
            have c6 : Chg (fun b => b = M) w5 w6 := Chg.turned T6.out rfl
            have HR6 : Hid (ColI w D M (.slice (some ⟨b, off, none⟩) m cp) ks ch la n (i + 1) u5 w6) := (show ColI _ _ _ _ _ _ _ _ _ _ _ by
              have e1 : colK ch n (ks.take (i + 1)) = colK ch n (ks.take i) := by rw [htk.out, colK_snoc, hnil.out]; simp
              refine ⟨I5.out.d.chg c6 (fun e => hDM e), I5.out.k.chg c6 (fun b hb e => (HS.out.kd hb).2 e), ?_, ?_, I5.out.c.trans (c6.mono (fun _ _ e => .inr e))⟩
              · have := M6.out
                rw [hcc.out, hne.out] at this
                rw [e1, htk.out, ← colC_snoc, hnil.out]
                have e2 : (colK ch n (ks.take i)).length + (ks.length - i) - 1 = (colK ch n (ks.take i)).length + (ks.length - (i + 1)) := by omega
                rw [← e2]
                exact this
              · rw [e1]
                refine I5.out.f.chg c6 (fun b hb e => ?_)
                have := (I5.out.f.block hb).1
                have := HS.out.lt (b := M) (.inr (.inl rfl))
                omega)
            clear c6
            go_wp2_with fail
            go_roundg (gk - 1)
            case measure => omega
            case rel => exact ⟨i + 1, _, by omega, rfl, by go_num, HR6⟩
          · have hz' : decide ((n5 : Int) = 0) = false := by simp; omega
            have hne5 : Hid (trimP (ch ky) n ≠ []) := (show _ ≠ _ from fun e => by have := HN5.out; rw [e] at this; simp at this; omega)
            have hne5' : Hid ((trimP (ch ky) n).isEmpty = false) := (show _ = _ by
              cases hq : trimP (ch ky) n with
              | nil => exact absurd hq hne5.out
              | cons x y => rfl)
            have hkl := colK_len ch n (ks.take i)
            rw [List.length_take] at hkl
            have HKL := hide hkl
            clear hkl
            go_upto_region 14 with (first
              | (at_mapUpdate; refine wpList_chput rfl _ _ _ rfl M _ _ rfl I5.out.m (by have := HKL.out; have := HM.out; omega) ky hks rfl _ _ rfl O5.out hne5.out ?_; intro w6 m6 t6; have M6 := hide m6; have T6 := hide t6; clear m6 t6)
              | fail)
            have c6 : Chg (fun b => b = M) w5 w6 := Chg.turned T6.out rfl
            have D6 := hide (I5.out.d.chg c6 (fun e => hDM e))
            have K6 := hide (I5.out.k.chg c6 (fun b hb e => (HS.out.kd hb).2 e))
            have F6 := hide (I5.out.f.chg c6 (fun b hb e => by
                have := (I5.out.f.block hb).1
                have := HS.out.lt (b := M) (.inr (.inl rfl))
                omega))
            have C6 := hide (I5.out.c.trans (c6.mono (fun _ _ e => .inr e)))
            clear c6
            have A6 : Hid (Below w6.heap.size w6 (w6.alloc (.cells #[.string ky] 9 (0, 0)))) := (Below.refl _ _).alloc (Nat.le_refl _) _
            have O6 : Hid (OwnG KE (w6.alloc (.cells #[.string ky] 9 (0, 0))) w.heap.size 9 u5 (colK ch n (ks.take i))) := F6.out.kept A6.out
            have R6 : Hid (RdG KE (w6.alloc (.cells #[.string ky] 9 (0, 0))) (.slice (some ⟨w6.heap.size, 0, none⟩) 1 1) [ky]) := rdG_one (E := KE) w6 9 ky
            have hb1 : Hid (((colK ch n (ks.take i)).length + [ky].length) * 16 ≤ 140737488355328) := (show ((colK ch n (ks.take i)).length + 1) * 16 ≤ 140737488355328 by have := HKL.out; omega)
            have hb2 : Hid ((colK ch n (ks.take i)).length + [ky].length ≤ maxLen) := (show (colK ch n (ks.take i)).length + 1 ≤ maxLen by have := HKL.out; simp only [maxLen]; omega)
            have hb3 : Hid (w.heap.size ≤ (w6.alloc (.cells #[.string ky] 9 (0, 0))).heap.size) := (show w.heap.size ≤ _ from Nat.le_trans C6.out.size A6.out.size)
            go_wp2_with (first
              | (at_builtin; refine wpList_append_G _ rfl _ _ 47 47 rfl w.heap.size 9 (.string ⟨#[]⟩) 16 Try.underlying47 Try.info9 rfl _ _ rfl O6.out _ [ky] rfl R6.out 9 Try.underlying47 hb1.out hb2.out hb3.out ?_; intro v7 w7 o7 g7; have O7 := hide o7; have G7 := hide g7; clear o7 g7)
              | fail)
            have HR7 : Hid (ColI w D M (.slice (some ⟨b, off, none⟩) m cp) ks ch la n (i + 1) v7 w7) := (show ColI _ _ _ _ _ _ _ _ _ _ _ by
              have hc7 : Chg (fun b => u5.ownBlock = some b) (w6.alloc (.cells #[.string ky] 9 (0, 0))) w7 := Chg.of_grown G7.out (fun k e _ => e)
              have hB : ∀ b, u5.ownBlock = some b → w.heap.size ≤ b := fun b hb => (F6.out.block hb).1
              have e1 : colK ch n (ks.take (i + 1)) = colK ch n (ks.take i) ++ [ky] := by rw [htk.out, colK_snoc, hne5'.out]; rfl
              refine ⟨(D6.out.kept A6.out).chg hc7 (fun e => ?_), (K6.out.kept A6.out).chg hc7 (fun b hb e => ?_), ?_, by rw [e1]; exact O7.out, (C6.out.trans (Chg.of_below A6.out)).then hc7 (fun i hi e => ?_)⟩
              · have := hB _ e; have := HS.out.lt (b := D) (.inl rfl); omega
              · have := hB _ e; have := HS.out.lt (b := b) (.inr (.inr hb)); omega
              · have := M6.out
                rw [hcc.out, hne.out] at this
                rw [e1, htk.out, ← colC_snoc, List.length_append, List.length_singleton]
                have e2 : (colK ch n (ks.take i)).length + (ks.length - i) = (colK ch n (ks.take i)).length + 1 + (ks.length - (i + 1)) := by omega
                rw [← e2]
                refine (MapC.kept (w := w6) this A6.out).chg hc7 (fun e => ?_) (fun b cur hb e => ?_)
                · have := hB _ e; have := HS.out.lt (b := M) (.inr (.inl rfl)); omega
                · obtain ⟨_, _, cu2, h2⟩ := O6.out.block e
                  rw [hb] at h2
                  cases h2
              · have := hB _ e; omega)
            clear A6 O6 R6 hb1 hb2 hb3 O7 G7
            go_wp2_with fail
            go_roundg (gk - 1)
            case measure => omega
            case rel => exact ⟨i + 1, _, by omega, rfl, by go_num, HR7⟩
        · obtain rfl : i = m := by omega
          have q3 : ¬ (i : Int) < (i : Int) := by omega
          have c1 := HR.out.d.cell (j := 1) rfl
          have f1 := HR.out.d.frozen 1
          obtain ⟨ua, un, uc, hu5⟩ : ∃ x y z, u5 = .slice x y z := by obtain ⟨x, y, h⟩ := HR.out.f.rd.slice; exact ⟨_, _, _, h⟩
          subst hu5
          go_wp2_with fail
          go_ret
          have hall : ks.take i = ks := List.take_of_length_le (by rw [HM.out]; exact Nat.le_refl _)
          have hR := HR.out
          have hcs : Chg (fun b => b = D) wr (wr.setCell ⟨D, 1, none⟩ (.slice ua un uc)) := Chg.setCell (F := fun b => b = D) _ (b := D) rfl 1 _
          have hf := hR.f
          have hmm := hR.m
          rw [hall] at hf hmm
          rw [HM.out, Nat.sub_self, Nat.add_zero] at hmm
          refine ⟨by rw [← HER.out, HOK.out]; rfl, _, colK ch n ks, ?_, by have := colK_len ch n ks; rw [HM.out] at this; exact this, ?_, fun b hb => .inr (hf.block hb).1⟩
          · rw [← HS'.out]
            unfold collP
            rw [HOK.out, if_pos rfl]
            refine ⟨hR.d.set 1 _, ?_, (hf.mono (Nat.zero_le _)).chg hcs (fun b hb e => ?_), coll_inv HS.out.inv (show fl ≤ n by omega) (show n ≤ la by omega), fun k hk => HS.out.sz k (List.mem_filter.1 hk).1⟩
            · have e1 := colC_all HS.out.inv n
              simp only at e1
              rw [e1] at hmm
              exact hmm.chg hcs (fun e => hDM e.symm) (fun b cur hb e => by
                have := hR.d
                unfold Blk at this
                rw [← e, hb] at this
                cases this)
            · have h3 := (hf.block hb).1
              have := HS.out.lt (b := D) (.inl rfl)
              omega
          · refine (hR.c.mono (fun b _ e => ?_)).trans (hcs.mono (fun b _ e => .inl e))
            rcases e with e | e
            · exact .inl e
            · exact .inr (.inl e)
#print axioms collect_any
end Go.Proofs.Ytgaoionnfkbhaaa
