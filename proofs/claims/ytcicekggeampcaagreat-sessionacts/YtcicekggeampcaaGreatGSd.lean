/-
  Texts that ride together: StL StU StD StV StE StN StO StF StSm StC Region7 StSa.
-/
import Derived.Test.YtcicekggeampcaaGreatGSc
import Derived.Test.YtcicekggeampcaaGreatGBd
import Derived.Laws.StructEq
import Derived.Test.YtcicekggeampcaaGreatGG
/-
  indenturelaw08.lives: what the call does.
-/
namespace Go.Proofs.YtcicekggeampcaaGreat
open Go.RowKit
def ka : ByteArray := ⟨#[97]⟩
def vx : ByteArray := ⟨#[120]⟩
def sl1 : SP := instP sp0 1 [(ka, vx, false)]
def sl2 : SP := instP sl1 2 [(ka, em, true)]
/-- A store that the law made. -/
structure Own1 (w0 w : World) (D M : Nat) (vk : Value) (ks : List ByteArray) (s : SP) : Prop where
  st : StAt w D M vk ks s
  hD : w0.heap.size ≤ D
  hM : w0.heap.size ≤ M
  hk : ∀ b, vk.ownBlock = some b → w0.heap.size ≤ b
  lo : Below w0.heap.size w0 w
theorem Own1.kept {w0 w w' : World} {D M : Nat} {vk : Value} {ks : List ByteArray} {s : SP} (h : Own1 w0 w D M vk ks s) (hb : Below w.heap.size w w') : Own1 w0 w' D M vk ks s :=
  ⟨h.st.kept hb, h.hD, h.hM, h.hk, h.lo.trans (hb.mono h.lo.size)⟩
theorem Own1.mine {w0 w : World} {D M : Nat} {vk : Value} {ks : List ByteArray} {s : SP} (h : Own1 w0 w D M vk ks s) {b : Nat} (hb : Mine D M vk b) : w0.heap.size ≤ b := by
  rcases hb with rfl | rfl | hb
  · exact h.hD
  · exact h.hM
  · exact h.hk b hb
theorem Own1.act {w0 w w' : World} {D M : Nat} {vk vk' : Value} {ks ks' : List ByteArray} {s s' : SP} (h : Own1 w0 w D M vk ks s) (h' : StAt w' D M vk' ks' s') (hc : Chg (Mine D M vk) w w') (hv : ∀ b, vk'.ownBlock = some b → vk.ownBlock = some b ∨ w.heap.size ≤ b) : Own1 w0 w' D M vk' ks' s' :=
  ⟨h', h.hD, h.hM, fun b hb => by
    rcases hv b hb with h1 | h1
    · exact h.hk b h1
    · exact Nat.le_trans h.lo.size h1, h.lo.trans (hc.below h.lo.size (fun k hk hm => by have := h.mine hm; omega))⟩
theorem own_new {w w' : World} {D M : Nat} (h : StAt w' D M (.slice none 0 0) [] sp0) (hD : w.heap.size ≤ D) (hM : w.heap.size ≤ M) (hb : Below w.heap.size w w') : Own1 w w' D M (.slice none 0 0) [] sp0 := ⟨h, hD, hM, (fun b hb => by cases hb), hb⟩
end Go.Proofs.YtcicekggeampcaaGreat

/-
  A Store that no call made: what the calls do.
-/
namespace Go.Proofs.YtcicekggeampcaaGreat
open Go.RowKit
/-- A pointer to no store that a call made. -/
def SUn (w : World) (v : Value) : Prop := v = .pointer none ∨ ∃ D, v = .pointer (some ⟨D, 0, none⟩) ∧ Blk w D 65 [.map none, .slice none 0 0, .int .i64 0, .int .i64 0]
end Go.Proofs.YtcicekggeampcaaGreat

/-
  Collect: what the call does.
-/
namespace Go.Proofs.YtcicekggeampcaaGreat
open Go.RowKit
/-- m[k] = c, in a walk. -/
theorem wpList_chput {w : World} {ops : Array Oper} {rest : List Oper} {op : Oper} {a : Act} {Q : Exit → Act → World → Prop} (hg : op.guard = none) (m x v : Operand) (hop : op.op = Op.mapUpdate 62 m x v)
    (M N : Nat) (ch : ByteArray → List Ver) (hm : a.eval m = .map (some M)) (h : MapC w M ch N) (hN : N ≤ 1000000) (k : ByteArray) (hk : k.size ≤ maxLen) (hx : a.eval x = .string k) (u : Value) (L : List Ver) (hv : a.eval v = u) (ho : OwnV w 0 115 u L) (hL : L ≠ [])
    (hK : ∀ w', MapC w' M (fun j => if j = k then L else ch j) (if (ch k).isEmpty then N + 1 else N) → w.mapTurned w' M → wpList Tryz.prog ops Q rest (a.put op.dst undef) w') : wpList Tryz.prog ops Q (op :: rest) a w := by
  refine wpList_plain hg fun K hK' => ?_
  obtain ⟨w', hrun, h1, h2⟩ := h.put hN k hk ho hL
  unfold Oper.wp
  simp [execOp, hop, hm, hx, hv, hrun, Result.andThen]
  exact hK' _ _ (hK w' h1 h2)
/-- delete(m, k), in a walk. -/
theorem wpList_chdel {w : World} {ops : Array Oper} {rest : List Oper} {op : Oper} {a : Act} {Q : Exit → Act → World → Prop} (hg : op.guard = none) (m x : Operand) (hop : op.op = Op.call { callee := Callee.builtin Builtin.delete, args := #[m, x], argTypes := #[62, 9] })
    (M N : Nat) (ch : ByteArray → List Ver) (hm : a.eval m = .map (some M)) (h : MapC w M ch N) (k : ByteArray) (hk : k.size ≤ maxLen) (hx : a.eval x = .string k)
    (hK : ∀ w', MapC w' M (fun j => if j = k then [] else ch j) (if (ch k).isEmpty then N else N - 1) → w.mapTurned w' M → wpList Tryz.prog ops Q rest (a.put op.dst (.tuple #[])) w') : wpList Tryz.prog ops Q (op :: rest) a w := by
  refine wpList_plain hg fun K hK' => ?_
  obtain ⟨w', hrun, h1, h2⟩ := h.del k hk op.type
  unfold Oper.wp
  simp [execOp, resolve, invoke, builtin, hop, hm, hx, hrun, Result.andThen]
  exact hK' _ _ (hK w' h1 h2)
/-- The chains, the first keys of which are trimmed. -/
def colC (ch : ByteArray → List Ver) (n : Int) (l : List ByteArray) : ByteArray → List Ver := fun k => if (l.any fun x => decide (x = k)) = true then trimP (ch k) n else ch k
/-- The keys that are left. -/
def colK (ch : ByteArray → List Ver) (n : Int) (l : List ByteArray) : List ByteArray := l.filter fun k => !(trimP (ch k) n).isEmpty
theorem colC_snoc {ch : ByteArray → List Ver} {n : Int} {l : List ByteArray} {k : ByteArray} : (fun j => if j = k then trimP (ch k) n else colC ch n l j) = colC ch n (l ++ [k]) := by
  funext j
  unfold colC
  by_cases h : j = k
  · subst h
    simp
  · have h' : ¬ k = j := fun e => h e.symm
    have e : ((l ++ [k]).any fun x => decide (x = j)) = l.any fun x => decide (x = j) := by
      rw [List.any_append, List.any_cons, List.any_nil, decide_eq_false h']
      simp
    rw [if_neg h, e]
theorem any_mem {l : List ByteArray} {k : ByteArray} : (l.any fun x => decide (x = k)) = true ↔ k ∈ l := by
  rw [List.any_eq_true]
  constructor
  · rintro ⟨x, hx, h⟩
    rw [decide_eq_true_eq] at h
    exact h ▸ hx
  · exact fun h => ⟨k, h, by simp⟩
theorem colK_snoc (ch : ByteArray → List Ver) (n : Int) (l : List ByteArray) (k : ByteArray) : colK ch n (l ++ [k]) = colK ch n l ++ if (trimP (ch k) n).isEmpty = true then [] else [k] := by
  unfold colK
  rw [List.filter_append]
  congr 1
  cases h : (trimP (ch k) n).isEmpty <;> simp [h]
theorem colK_len (ch : ByteArray → List Ver) (n : Int) (l : List ByteArray) : (colK ch n l).length ≤ l.length := List.length_filter_le _ _
theorem trim_sub {L : List Ver} {n : Int} {v : Ver} (h : v ∈ trimP L n) : v ∈ L := by
  unfold trimP at h
  split at h
  · rcases List.mem_append.1 h with h | h
    · exact (List.mem_filter.1 (mem_live h)).1
    · exact (List.mem_filter.1 h).1
  · cases h
theorem coll_inv {s : SP} {ks : List ByteArray} (h : Inv s ks) {n : Int} (h1 : s.floor ≤ n) (h2 : n ≤ s.last) : Inv ⟨fun k => trimP (s.ch k) n, s.last, n⟩ (colK s.ch n ks) := by
  refine ⟨List.Pairwise.sublist List.filter_sublist h.srt, fun k => ?_, fun k => trim_good (h.good k) n, fun k v hv => h.le k v (trim_sub hv), Int.le_trans h.fl h1, h2⟩
  unfold colK
  rw [List.mem_filter, h.mem k]
  constructor
  · rintro ⟨-, h3⟩
    intro e
    rw [show trimP (s.ch k) n = [] from e] at h3
    cases h3
  · intro h3
    refine ⟨fun e => h3 (by show trimP (s.ch k) n = []; rw [e]; rfl), ?_⟩
    cases hq : trimP (s.ch k) n with
    | nil => exact absurd hq h3
    | cons a b => rfl
theorem colC_all {s : SP} {ks : List ByteArray} (h : Inv s ks) (n : Int) : colC s.ch n ks = fun k => trimP (s.ch k) n := by
  funext k
  unfold colC
  by_cases hk : k ∈ ks
  · rw [if_pos (any_mem.2 hk)]
  · rw [if_neg (fun e => hk (any_mem.1 e))]
    have : s.ch k = [] := by
      cases hq : s.ch k with
      | nil => rfl
      | cons a b => exact absurd ((h.mem k).2 (by rw [hq]; simp)) hk
    rw [this]
    rfl
/-- What is kept while keys are collected. -/
structure ColI (w : World) (D M : Nat) (vk : Value) (ks : List ByteArray) (ch : ByteArray → List Ver) (la n : Int) (i : Nat) (vf : Value) (wr : World) : Prop where
  d : Blk wr D 65 (SB M vk la n)
  k : OwnG KE wr 0 9 vk ks
  m : MapC wr M (colC ch n (ks.take i)) ((colK ch n (ks.take i)).length + (ks.length - i))
  f : OwnG KE wr w.heap.size 9 vf (colK ch n (ks.take i))
  c : Chg (fun b => b = D ∨ b = M) w wr
theorem ColI.kept {w : World} {D M : Nat} {vk : Value} {ks : List ByteArray} {ch : ByteArray → List Ver} {la n : Int} {i : Nat} {vf : Value} {wr wr' : World} (h : ColI w D M vk ks ch la n i vf wr) (hb : Below wr.heap.size wr wr') : ColI w D M vk ks ch la n i vf wr' :=
  ⟨h.d.kept hb, h.k.kept hb, h.m.kept hb, h.f.kept hb, h.c.trans (Chg.of_below hb)⟩
set_option maxRecDepth 100000 in
set_option maxHeartbeats 4000000 in
theorem scollect_any {w : World} {D M : Nat} {vk : Value} {ks : List ByteArray} {s : SP} (h : StAt w D M vk ks s) (hN : ks.length ≤ 1000000) (hla : s.last ≤ 1000000) (n : Int) :
    Calls Tryz.prog 32 #[.pointer (some ⟨D, 0, none⟩), .int .i64 n] w fun e w' => e = .returned (.int .i64 (if collOk s n = true then 0 else 2)) ∧ ∃ vk' ks', StAt w' D M vk' ks' (collP s n) ∧ ks'.length ≤ ks.length ∧
      Chg (Mine D M vk) w w' ∧ (∀ b, vk'.ownBlock = some b → vk.ownBlock = some b ∨ w.heap.size ≤ b) := by
  have HS := hide h
  obtain ⟨ch, la, fl⟩ := s
  simp only at hla
  obtain ⟨a, cp, rfl⟩ := h.kk.rd.slice
  have c2 := h.d.cell (j := 2) rfl
  have c3 := h.d.cell (j := 3) rfl
  have f3 := h.d.frozen 3
  simp only at c2 c3
  clear h
  obtain ⟨m, HM⟩ : ∃ m, Hid (ks.length = m) := ⟨_, rfl⟩
  rw [HM.out] at HS hN ⊢
  obtain ⟨er, HER⟩ : ∃ x : Int, Hid ((if collOk ⟨ch, la, fl⟩ n = true then 0 else 2) = x) := ⟨_, rfl⟩
  obtain ⟨s', HS'⟩ : ∃ x, Hid (collP ⟨ch, la, fl⟩ n = x) := ⟨_, rfl⟩
  rw [HER.out, HS'.out]
  have hno : Hid (collOk ⟨ch, la, fl⟩ n = false → er = 2 ∧ s' = ⟨ch, la, fl⟩) := (show _ → _ from fun hq => ⟨by rw [← HER.out, hq]; rfl, by rw [← HS'.out]; unfold collP; rw [hq]; rfl⟩)
  go_enter Tryz.func32, Tryz.ntmps32
  go_wp2_with fail
  refine (sMade_any HS.out.d).mono ?_
  rintro e w1 ⟨rfl, hw⟩
  subst w1
  by_cases h1 : n < fl
  · have q1 : decide (n < fl) = true := by simp [h1]
    obtain ⟨he, hs⟩ := hno.out (by unfold collOk; simp; omega)
    go_wp2_with fail
    go_ret
    exact ⟨by rw [he]; rfl, _, ks, by rw [hs]; exact HS.out, by rw [HM.out]; exact Nat.le_refl _, Chg.refl _ _, fun b hb => .inl hb⟩
  · have q1 : decide (n < fl) = false := by simp; omega
    by_cases h2 : la < n
    · have q2 : decide (la < n) = true := by simp [h2]
      obtain ⟨he, hs⟩ := hno.out (by unfold collOk; simp; omega)
      go_wp2_with fail
      go_ret
      exact ⟨by rw [he]; rfl, _, ks, by rw [hs]; exact HS.out, by rw [HM.out]; exact Nat.le_refl _, Chg.refl _ _, fun b hb => .inl hb⟩
    · have q2 : decide (la < n) = false := by simp; omega
      have hok : collOk ⟨ch, la, fl⟩ n = true := by unfold collOk; simp; omega
      have HOK := hide hok
      clear hok hno
      have hset := hide (HS.out.d.set 3 (.int .i64 n))
      have hcs : Hid (Chg (fun b => b = D ∨ b = M) w (w.setCell ⟨D, 3, none⟩ (.int .i64 n))) := Chg.setCell _ (.inl rfl) 3 _
      have hDM : D ≠ M := HS.out.ne
      have I0 : Hid (ColI w D M (.slice a m cp) ks ch la n 0 (.slice none 0 0) (w.setCell ⟨D, 3, none⟩ (.int .i64 n))) := (show ColI _ _ _ _ _ _ _ _ _ _ _ by
        have hc : Chg (fun b => b = D) w (w.setCell ⟨D, 3, none⟩ (.int .i64 n)) := Chg.setCell (F := fun b => b = D) _ (b := D) rfl 3 _
        refine ⟨hset.out, HS.out.kk.chg hc (fun b hb e => (HS.out.kd hb).1 e), ?_, ownG_nil _ _ _, hcs.out⟩
        have e0 : colC ch n (ks.take 0) = ch := by funext k; simp [colC]
        rw [e0]
        have := HS.out.mp.chg hc (fun e => hDM e.symm) (fun b cur hb e => by
          have := HS.out.d
          unfold Blk at this
          rw [← e, hb] at this
          cases this)
        simpa [colK] using this)
      have c1' := I0.out.d.cell (j := 1) rfl
      go_wp2_with fail
      generalize w.setCell ⟨D, 3, none⟩ (.int .i64 n) = w1 at I0 c1' ⊢
      clear hset hcs
      go_loopg [5, 35] m (fun g y x wr => ∃ (i : Nat) (vf : Value), g + i = m ∧ y = vf ∧ x = .int .i64 (i : Int) ∧ Hid (ColI w D M (.slice a m cp) ks ch la n i vf wr))
      case atStart => exact ⟨0, _, by omega, rfl, rfl, I0⟩
      case round =>
        obtain ⟨i, vf, hgi, rfl, rfl, HR⟩ := hrel
        by_cases hlt : i < m
        · have q3 : (i : Int) < (m : Int) := by omega
          obtain ⟨b, off, rfl, hlb, hx⟩ := HR.out.k.rd.nth (by omega)
          have hmk : i < ks.length := by rw [HM.out]; exact hlt
          have ck : wr.cell? ⟨b, off + i, none⟩ = some (.string ks[i]) := by
            have := hx i hmk 0 _ rfl
            simpa [KE] using this
          obtain ⟨ky, HKY⟩ : ∃ k, Hid (ks[i] = k) := ⟨ks[i], (show ks[i] = ks[i] from rfl)⟩
          rw [HKY.out] at ck
          have hmem : ky ∈ ks := by rw [← HKY.out]; exact List.getElem_mem hmk
          have hks : ky.size ≤ maxLen := by have := HS.out.sz ky hmem; simp only [maxLen]; omega
          have hnt : Hid (ky ∉ ks.take i) := (show ky ∉ ks.take i from fun e => by
            obtain ⟨j, hj, he⟩ := List.getElem_of_mem e
            rw [List.length_take] at hj
            rw [List.getElem_take] at he
            have := (List.pairwise_iff_getElem.1 HS.out.inv.srt) j i (by omega) hmk (by omega)
            rw [he, HKY.out, lt_irrefl] at this
            cases this)
          have hcc : Hid (colC ch n (ks.take i) ky = ch ky) := (show _ = _ by unfold colC; rw [if_neg (fun e => hnt.out (any_mem.1 e))])
          have hne : Hid ((ch ky).isEmpty = false) := (show _ = _ by
            have := (HS.out.inv.mem ky).1 hmem
            cases hq : ch ky with
            | nil => exact absurd hq this
            | cons x y => rfl)
          have htk : Hid (ks.take (i + 1) = ks.take i ++ [ky]) := (show _ = _ by rw [List.take_succ_eq_append_getElem hmk, HKY.out])
          obtain ⟨vc, hvc, -, hlk⟩ := HR.out.m.look_all ky hks
          rw [hcc.out] at hvc
          have hlk' := hlk wr (Below.refl _ _)
          have c0 := HR.out.d.cell (j := 0) rfl
          have hlen : Hid ((ch ky).length ≤ 4398046511104) := (show (ch ky).length ≤ 4398046511104 by have h3 : ((ch ky).length : Int) ≤ la := HS.out.inv.len ky; omega)
          have HT := hide (trim_any hvc.rd hlen.out n)
          clear hx hlk hvc
          go_wp2_with fail
          refine HT.out.mono ?_
          rintro e w5 ⟨v5, rfl, ho5, hb5⟩
          obtain ⟨a5, n5, cp5, hv5⟩ : ∃ a n c, v5 = .slice a n c := by obtain ⟨x, y, h⟩ := ho5.rd.slice; exact ⟨_, _, _, h⟩
          subst hv5
          have HN5 := hide ho5.rd.len
          have O5 := hide (ho5.mono (Nat.zero_le _))
          have I5 := hide (HR.out.kept hb5)
          have c0' := I5.out.d.cell (j := 0) rfl
          clear HT ho5 hb5 hlk' c0 ck
          by_cases hz : n5 = 0
          · subst hz
            have hnil : Hid (trimP (ch ky) n = []) := (show _ = _ from List.eq_nil_of_length_eq_zero HN5.out)
            go_wp2_with (first
              | (at_delete; refine wpList_chdel rfl _ _ rfl M _ _ rfl I5.out.m ky hks rfl ?_; intro w6 m6 t6; have M6 := hide m6; have T6 := hide t6; clear m6 t6)
              | fail)
            have c6 : Chg (fun b => b = M) w5 w6 := Chg.turned T6.out rfl
            have HR6 : Hid (ColI w D M (.slice (some ⟨b, off, none⟩) m cp) ks ch la n (i + 1) u5 w6) := (show ColI _ _ _ _ _ _ _ _ _ _ _ by
              have e1 : colK ch n (ks.take (i + 1)) = colK ch n (ks.take i) := by rw [htk.out, colK_snoc, hnil.out]; simp
              refine ⟨I5.out.d.chg c6 (fun e => hDM e), I5.out.k.chg c6 (fun b hb e => (HS.out.kd hb).2 e), ?_, ?_, I5.out.c.trans (c6.mono (fun _ _ e => .inr e))⟩
              · have := M6.out
                rw [hcc.out, hne.out] at this
                rw [e1, htk.out, ← colC_snoc, hnil.out]
                have e2 : (colK ch n (ks.take i)).length + (ks.length - i) - 1 = (colK ch n (ks.take i)).length + (ks.length - (i + 1)) := by omega
                rw [← e2]
                exact this
              · rw [e1]
                refine I5.out.f.chg c6 (fun b hb e => ?_)
                have := (I5.out.f.block hb).1
                have := HS.out.lt (b := M) (.inr (.inl rfl))
                omega)
            clear c6
            go_wp2_with fail
            go_roundg (gk - 1)
            case measure => omega
            case rel => exact ⟨i + 1, _, by omega, rfl, by go_num, HR6⟩
          · have hz' : decide ((n5 : Int) = 0) = false := by simp; omega
            have hne5 : Hid (trimP (ch ky) n ≠ []) := (show _ ≠ _ from fun e => by have := HN5.out; rw [e] at this; simp at this; omega)
            have hne5' : Hid ((trimP (ch ky) n).isEmpty = false) := (show _ = _ by
              cases hq : trimP (ch ky) n with
              | nil => exact absurd hq hne5.out
              | cons x y => rfl)
            have hkl := colK_len ch n (ks.take i)
            rw [List.length_take] at hkl
            have HKL := hide hkl
            clear hkl
            go_upto_region 14 with (first
              | (at_mapUpdate; refine wpList_chput rfl _ _ _ rfl M _ _ rfl I5.out.m (by have := HKL.out; have := HM.out; omega) ky hks rfl _ _ rfl O5.out hne5.out ?_; intro w6 m6 t6; have M6 := hide m6; have T6 := hide t6; clear m6 t6)
              | fail)
            have c6 : Chg (fun b => b = M) w5 w6 := Chg.turned T6.out rfl
            have D6 := hide (I5.out.d.chg c6 (fun e => hDM e))
            have K6 := hide (I5.out.k.chg c6 (fun b hb e => (HS.out.kd hb).2 e))
            have F6 := hide (I5.out.f.chg c6 (fun b hb e => by
                have := (I5.out.f.block hb).1
                have := HS.out.lt (b := M) (.inr (.inl rfl))
                omega))
            have C6 := hide (I5.out.c.trans (c6.mono (fun _ _ e => .inr e)))
            clear c6
            have A6 : Hid (Below w6.heap.size w6 (w6.alloc (.cells #[.string ky] 9 (0, 0)))) := (Below.refl _ _).alloc (Nat.le_refl _) _
            have O6 : Hid (OwnG KE (w6.alloc (.cells #[.string ky] 9 (0, 0))) w.heap.size 9 u5 (colK ch n (ks.take i))) := F6.out.kept A6.out
            have R6 : Hid (RdG KE (w6.alloc (.cells #[.string ky] 9 (0, 0))) (.slice (some ⟨w6.heap.size, 0, none⟩) 1 1) [ky]) := rdG_one (E := KE) w6 9 ky
            have hb1 : Hid (((colK ch n (ks.take i)).length + [ky].length) * 16 ≤ 140737488355328) := (show ((colK ch n (ks.take i)).length + 1) * 16 ≤ 140737488355328 by have := HKL.out; omega)
            have hb2 : Hid ((colK ch n (ks.take i)).length + [ky].length ≤ maxLen) := (show (colK ch n (ks.take i)).length + 1 ≤ maxLen by have := HKL.out; simp only [maxLen]; omega)
            have hb3 : Hid (w.heap.size ≤ (w6.alloc (.cells #[.string ky] 9 (0, 0))).heap.size) := (show w.heap.size ≤ _ from Nat.le_trans C6.out.size A6.out.size)
            go_wp2_with (first
              | (at_builtin; refine wpList_append_G _ rfl _ _ 63 63 rfl w.heap.size 9 (.string ⟨#[]⟩) 16 Tryz.underlying63 Tryz.info9 rfl _ _ rfl O6.out _ [ky] rfl R6.out 9 Tryz.underlying63 hb1.out hb2.out hb3.out ?_; intro v7 w7 o7 g7; have O7 := hide o7; have G7 := hide g7; clear o7 g7)
              | fail)
            have HR7 : Hid (ColI w D M (.slice (some ⟨b, off, none⟩) m cp) ks ch la n (i + 1) v7 w7) := (show ColI _ _ _ _ _ _ _ _ _ _ _ by
              have hc7 : Chg (fun b => u5.ownBlock = some b) (w6.alloc (.cells #[.string ky] 9 (0, 0))) w7 := Chg.of_grown G7.out (fun k e _ => e)
              have hB : ∀ b, u5.ownBlock = some b → w.heap.size ≤ b := fun b hb => (F6.out.block hb).1
              have e1 : colK ch n (ks.take (i + 1)) = colK ch n (ks.take i) ++ [ky] := by rw [htk.out, colK_snoc, hne5'.out]; rfl
              refine ⟨(D6.out.kept A6.out).chg hc7 (fun e => ?_), (K6.out.kept A6.out).chg hc7 (fun b hb e => ?_), ?_, by rw [e1]; exact O7.out, (C6.out.trans (Chg.of_below A6.out)).then hc7 (fun i hi e => ?_)⟩
              · have := hB _ e; have := HS.out.lt (b := D) (.inl rfl); omega
              · have := hB _ e; have := HS.out.lt (b := b) (.inr (.inr hb)); omega
              · have := M6.out
                rw [hcc.out, hne.out] at this
                rw [e1, htk.out, ← colC_snoc, List.length_append, List.length_singleton]
                have e2 : (colK ch n (ks.take i)).length + (ks.length - i) = (colK ch n (ks.take i)).length + 1 + (ks.length - (i + 1)) := by omega
                rw [← e2]
                refine (MapC.kept (w := w6) this A6.out).chg hc7 (fun e => ?_) (fun b cur hb e => ?_)
                · have := hB _ e; have := HS.out.lt (b := M) (.inr (.inl rfl)); omega
                · obtain ⟨_, _, cu2, h2⟩ := O6.out.block e
                  rw [hb] at h2
                  cases h2
              · have := hB _ e; omega)
            clear A6 O6 R6 hb1 hb2 hb3 O7 G7
            go_wp2_with fail
            go_roundg (gk - 1)
            case measure => omega
            case rel => exact ⟨i + 1, _, by omega, rfl, by go_num, HR7⟩
        · obtain rfl : i = m := by omega
          have q3 : ¬ (i : Int) < (i : Int) := by omega
          have c1 := HR.out.d.cell (j := 1) rfl
          have f1 := HR.out.d.frozen 1
          obtain ⟨ua, un, uc, hu5⟩ : ∃ x y z, u5 = .slice x y z := by obtain ⟨x, y, h⟩ := HR.out.f.rd.slice; exact ⟨_, _, _, h⟩
          subst hu5
          go_wp2_with fail
          go_ret
          have hall : ks.take i = ks := List.take_of_length_le (by rw [HM.out]; exact Nat.le_refl _)
          have hR := HR.out
          have hcs : Chg (fun b => b = D) wr (wr.setCell ⟨D, 1, none⟩ (.slice ua un uc)) := Chg.setCell (F := fun b => b = D) _ (b := D) rfl 1 _
          have hf := hR.f
          have hmm := hR.m
          rw [hall] at hf hmm
          rw [HM.out, Nat.sub_self, Nat.add_zero] at hmm
          refine ⟨by rw [← HER.out, HOK.out]; rfl, _, colK ch n ks, ?_, by have := colK_len ch n ks; rw [HM.out] at this; exact this, ?_, fun b hb => .inr (hf.block hb).1⟩
          · rw [← HS'.out]
            unfold collP
            rw [HOK.out, if_pos rfl]
            refine ⟨hR.d.set 1 _, ?_, (hf.mono (Nat.zero_le _)).chg hcs (fun b hb e => ?_), coll_inv HS.out.inv (show fl ≤ n by omega) (show n ≤ la by omega), fun k hk => HS.out.sz k (List.mem_filter.1 hk).1⟩
            · have e1 := colC_all HS.out.inv n
              simp only at e1
              rw [e1] at hmm
              exact hmm.chg hcs (fun e => hDM e.symm) (fun b cur hb e => by
                have := hR.d
                unfold Blk at this
                rw [← e, hb] at this
                cases this)
            · have h3 := (hf.block hb).1
              have := HS.out.lt (b := D) (.inl rfl)
              omega
          · refine (hR.c.mono (fun b _ e => ?_)).trans (hcs.mono (fun b _ e => .inl e))
            rcases e with e | e
            · exact .inl e
            · exact .inr (.inl e)
end Go.Proofs.YtcicekggeampcaaGreat

/-
  A store of the law's own, act by act.
-/
namespace Go.Proofs.YtcicekggeampcaaGreat
open Go.RowKit
/-- A store that the law made at w, behind so many Installs; blocks of O are none of its. -/
def LS (w wr : World) (D i : Nat) (s : SP) (O : Nat → Prop) : Prop := ∃ M vk ks, Own1 w wr D M vk ks s ∧ ks.length ≤ 60 * i ∧ s.last ≤ i ∧ ∀ b, O b → b < wr.heap.size ∧ ¬ Mine D M vk b
/-- Blocks of O are as they were. -/
def Same (O : Nat → Prop) (w w' : World) : Prop := ∀ b, O b → w'.heap[b]? = w.heap[b]?
theorem Blk.same {O : Nat → Prop} {w w' : World} {b : Nat} {T : TypeId} {cs : List Value} (h : Blk w b T cs) (hs : Same O w w') (hb : O b) : Blk w' b T cs := (hs b hb).trans h
theorem LS.kept {w wr wr' : World} {D i : Nat} {s : SP} {O : Nat → Prop} (h : LS w wr D i s O) (hb : Below wr.heap.size wr wr') : LS w wr' D i s O := by
  obtain ⟨M, vk, ks, h1, h2, h3, h4⟩ := h
  exact ⟨M, vk, ks, h1.kept hb, h2, h3, fun b hO => ⟨Nat.lt_of_lt_of_le (h4 b hO).1 hb.size, (h4 b hO).2⟩⟩
/-- A block that is new is none of its. -/
theorem LS.own {w wr wr' : World} {D i : Nat} {s : SP} {O : Nat → Prop} (h : LS w wr D i s O) (hb : Below wr.heap.size wr wr') {E : Nat} (hE : wr.heap.size ≤ E) (hE' : E < wr'.heap.size) : LS w wr' D i s (fun b => O b ∨ b = E) := by
  obtain ⟨M, vk, ks, h1, h2, h3, h4⟩ := h
  refine ⟨M, vk, ks, h1.kept hb, h2, h3, fun b hO => ?_⟩
  rcases hO with hO | rfl
  · exact ⟨Nat.lt_of_lt_of_le (h4 b hO).1 hb.size, (h4 b hO).2⟩
  · exact ⟨hE', fun hm => by have := h1.st.lt hm; omega⟩
theorem LS.less {w wr : World} {D i : Nat} {s : SP} {O O' : Nat → Prop} (h : LS w wr D i s O) (hO : ∀ b, O' b → O b) : LS w wr D i s O' := by
  obtain ⟨M, vk, ks, h1, h2, h3, h4⟩ := h
  exact ⟨M, vk, ks, h1, h2, h3, fun b hb => h4 b (hO b hb)⟩
theorem LS.mono {w wr : World} {D i j : Nat} {s : SP} {O : Nat → Prop} (h : LS w wr D i s O) (hij : i ≤ j) : LS w wr D j s O := by
  obtain ⟨M, vk, ks, h1, h2, h3, h4⟩ := h
  exact ⟨M, vk, ks, h1, by omega, by omega, h4⟩
theorem LS.lo {w wr : World} {D i : Nat} {s : SP} {O : Nat → Prop} (h : LS w wr D i s O) : Below w.heap.size w wr := by
  obtain ⟨M, vk, ks, h1, -⟩ := h
  exact h1.lo
theorem LS.bnd {w wr : World} {D i : Nat} {s : SP} {O : Nat → Prop} (h : LS w wr D i s O) : 0 ≤ s.floor ∧ s.floor ≤ s.last ∧ s.last ≤ i := by
  obtain ⟨M, vk, ks, h1, h2, h3, -⟩ := h
  exact ⟨h1.st.inv.fl, h1.st.inv.fle, h3⟩
theorem ls_new {w : World} : Calls Tryz.prog 8 #[] w fun e w' => ∃ D, e = .returned (.pointer (some ⟨D, 0, none⟩)) ∧ LS w w' D 0 sp0 (fun _ => False) :=
  (sNew_any w).mono fun e w' ⟨D, M, he, h1, h2, h3, h4⟩ => ⟨D, he, M, _, _, own_new h1 h2 h3 h4, by simp, by simp [sp0], fun _ h => h.elim⟩
theorem inst_last {s : SP} {n : Int} {L : List Pr} {i : Nat} (h : s.last ≤ i) : (instP s n L).last ≤ ((i + 1 : Nat) : Int) := by
  unfold instP
  split
  · rename_i hq
    unfold instOk at hq
    rw [Bool.and_eq_true, decide_eq_true_eq] at hq
    show n ≤ _
    omega
  · omega
theorem mine_new {D M : Nat} {vk vk' : Value} {w w' : World} {b : Nat} (hb : b < w.heap.size ∧ ¬ Mine D M vk b) (hs : w.heap.size ≤ w'.heap.size) (hv : ∀ b, vk'.ownBlock = some b → vk.ownBlock = some b ∨ w.heap.size ≤ b) : b < w'.heap.size ∧ ¬ Mine D M vk' b := by
  refine ⟨by omega, fun hm => hb.2 ?_⟩
  rcases hm with h | h | h
  · exact .inl h
  · exact .inr (.inl h)
  · rcases hv b h with h' | h'
    · exact .inr (.inr h')
    · omega
theorem LS.get {w wr : World} {D i : Nat} {s : SP} {O : Nat → Prop} (h : LS w wr D i s O) (hi : i ≤ 1000) (k : ByteArray) (hk : k.size ≤ maxLen) (n : Int) :
    Calls Tryz.prog 47 #[.pointer (some ⟨D, 0, none⟩), .string k, .int .i64 n] wr fun e w' => e = .returned (.tuple #[.string (getS s k n).1, .int .i64 (getS s k n).2]) ∧ Below wr.heap.size wr w' := by
  obtain ⟨M, vk, ks, h1, h2, h3, -⟩ := h
  exact sGet_any h1.st (by omega) k hk n
theorem LS.last {w wr : World} {D i : Nat} {s : SP} {O : Nat → Prop} (h : LS w wr D i s O) : Calls Tryz.prog 30 #[.pointer (some ⟨D, 0, none⟩)] wr fun e w' => e = .returned (.int .i64 s.last) ∧ w' = wr := by
  obtain ⟨M, vk, ks, h1, -⟩ := h
  exact sLast_any h1.st.d
end Go.Proofs.YtcicekggeampcaaGreat

/-
  between: what is handed to whatever loop goes over a range; Wrote.
-/
namespace Go.Proofs.YtcicekggeampcaaGreat
open Go.RowKit Go.Shelf
attribute [local go_sem] Oper.semAt_some
theorem filter_range {ks : List ByteArray} (hs : Srt ks) (a b : ByteArray) {j : Nat} (hj : ∀ i (hi : i < (ks.drop (lb ks a)).length), i < j → lt (ks.drop (lb ks a))[i] b = true)
    (he : ∀ (hi : j < (ks.drop (lb ks a)).length), lt (ks.drop (lb ks a))[j] b = false) : ks.filter (inr a b) = (ks.drop (lb ks a)).take j := by
  have h1 : ks = ks.take (lb ks a) ++ ((ks.drop (lb ks a)).take j ++ (ks.drop (lb ks a)).drop j) := by rw [List.take_append_drop, List.take_append_drop]
  have hd := srt_drop hs (lb ks a)
  conv => lhs; rw [h1]
  rw [List.filter_append, List.filter_append]
  have e1 : (ks.take (lb ks a)).filter (inr a b) = [] := by
    rw [List.filter_eq_nil_iff]
    intro k hk
    unfold inr
    rw [lb_take hs k hk]
    simp
  have e2 : ((ks.drop (lb ks a)).take j).filter (inr a b) = (ks.drop (lb ks a)).take j := by
    rw [List.filter_eq_self]
    intro k hk
    obtain ⟨i, hi, rfl⟩ := List.getElem_of_mem hk
    rw [List.length_take] at hi
    rw [List.getElem_take]
    unfold inr
    rw [lb_drop hs _ (List.getElem_mem _), hj i (by omega) (by omega)]
    rfl
  have e3 : ((ks.drop (lb ks a)).drop j).filter (inr a b) = [] := by
    rw [List.filter_eq_nil_iff]
    intro k hk
    obtain ⟨i, hi, rfl⟩ := List.getElem_of_mem hk
    rw [List.length_drop] at hi
    rw [List.getElem_drop]
    have hj' : j < (ks.drop (lb ks a)).length := by omega
    have h0 := he hj'
    have hge : lt (ks.drop (lb ks a))[j + i] b = false := by
      rcases Nat.eq_zero_or_pos i with rfl | hi'
      · exact h0
      · have hlt := (List.pairwise_iff_getElem.1 hd) j (j + i) hj' (by omega) (by omega)
        cases hq : lt (ks.drop (lb ks a))[j + i] b with
        | false => rfl
        | true => rw [lt_trans hlt hq] at h0; cases h0
    unfold inr
    rw [hge]
    simp
  rw [e1, e2, e3, List.nil_append, List.append_nil]
abbrev Rng : Type := ByteArray × Value
def rgV (x : Rng) : Array Value := #[.string x.1, x.2]
def rgR (ks : List ByteArray) (ch : ByteArray → List Ver) (a b : ByteArray) (pre : List Rng) (x : Rng) (W : World) : Prop :=
  pre.map (·.1) = (ks.drop (lb ks a)).take pre.length ∧ (ks.drop (lb ks a))[pre.length]? = some x.1 ∧ inr a b x.1 = true ∧ RdV W x.2 (ch x.1) ∧ True
set_option maxRecDepth 100000 in
set_option maxHeartbeats 4000000 in
theorem between1_hands (n B0 B1 B2 D M : Nat) (vk : Value) (ks : List ByteArray) (s : SP) (fa tb : ByteArray) (w : World) (h : StAt w D M vk ks s) (hN : ks.length ≤ 1000000)
    (h0 : Blk w B0 29 [.pointer (some ⟨D, 0, none⟩)]) (h1 : Blk w B1 9 [.string fa]) (h2 : Blk w B2 9 [.string tb]) {G : Nat → Prop} (hG0 : ¬ G B0) (_hG1 : ¬ G B1) (hG2 : ¬ G B2) (hGm : ∀ b, Mine D M vk b → ¬ G b) (hGc : NoCh w G) :
    Hands2 Tryz.prog n 104 #[.pointer (some ⟨B0, 0, none⟩), .pointer (some ⟨B1, 0, none⟩), .pointer (some ⟨B2, 0, none⟩)] rgV (rgR ks s.ch fa tb) (fun xs => xs.map (·.1) = ks.filter (inr fa tb)) G w := by
  intro l J Jx W hW hJ hJx hJ0 hY
  have HST := hide h
  have HW := hide (h.kept hW)
  have hcW : Hid (Chg G w W) := Chg.of_below hW
  have hb0 := hide h0
  have hb1 := hide h1
  have hb2 := hide h2
  obtain ⟨ka, ck, rfl⟩ := h.kk.rd.slice
  obtain ⟨nk, HNK⟩ : ∃ m, Hid (ks.length = m) := ⟨_, rfl⟩
  rw [HNK.out] at HST HW hGm hN
  have HGM := hide hGm
  have HGC := hide hGc
  have bS := hide (h0.kept hW)
  have bF := hide (h1.kept hW)
  have bT := hide (h2.kept hW)
  have HD := hide HW.out.d
  have HK := hide HW.out.kk.rd
  have HSR := hide h.inv.srt
  have HY := hide hY
  have HJ := hide hJ
  have HJX := hide hJx
  have H0 := hide hJ0
  obtain ⟨p, Hp⟩ : ∃ p, Hid (lb ks fa = p) := ⟨_, rfl⟩
  obtain ⟨fd, Hfd⟩ : ∃ x, Hid (sfnd ks fa = x) := ⟨_, rfl⟩
  have hpn : p ≤ nk := by have := lb_le ks fa; rw [Hp.out, HNK.out] at this; exact this
  clear h hW hJ hJx hJ0 hY h0 h1 h2 hGm hGc
  refine callsIn_of_wp Tryz.func104 rfl trivial ?_ rfl
  simp only [Tryz.ntmps104, List.size_toArray, List.length_cons, List.length_nil, Nat.reduceAdd, Nat.reduceSub, Array.replicate_succ, Array.replicate_zero, List.push_toArray, List.append_toArray, List.nil_append, List.cons_append]
  gi_wp2_with fail
  refine wpIn_wide.2 ?_
  refine wp_region_inv Tryz.mixed (KS (fun i_ => match i_ with | 0 | 1 => .val (.pointer (some ⟨D, 0, none⟩)) | 2 => .val (.pointer (some ⟨D, 1, none⟩)) | 3 => .val (.slice ka nk ck) | 4 => .val (.string fa) | 5 | 6 => .val (.tuple #[.int .i64 (p : Int), .bool fd]) | 7 | 9 => .val (.int .i64 (p : Int)) | 8 | 10 => .val (.bool fd) | _ => .free)) 45 rfl (by decide +kernel) (KS_mono _) ?_ ?_
  · refine AllFrom.cons (fun a' w' hg hk hd => ?_) (AllFrom.cons (fun a' w' hg hk hd => ?_) (AllFrom.cons (fun a' w' hg hk hd => ?_) (AllFrom.cons (fun a' w' hg hk hd => ?_) (AllFrom.cons (fun a' w' hg hk hd => ?_) (AllFrom.cons (fun a' w' hg hk hd => ?_) (AllFrom.cons (fun a' w' hg hk hd => ?_) (AllFrom.cons (fun a' w' hg hk hd => ?_) (AllFrom.cons (fun a' w' hg hk hd => ?_) (AllFrom.cons (fun a' w' hg hk hd => ?_) (AllFrom.cons (fun a' w' hg hk hd => ?_) AllFrom.nil))))))))))
    · -- 0: Op.load 25 (Operand.tmp 1)
      intro Q
      have e1 : a'.eval (.tmp 1) = .pointer (some ⟨B0, 0, none⟩) := hk.at 1 (by decide +kernel)
      have c := (bS.out.kept hg).cell (j := 0) rfl
      clear hd hk
      exact wp_value (.pointer (some ⟨D, 0, none⟩)) (by simp only [execOp, e1]; go_simp) (KS_mkv rfl rfl)
    · -- 1: Op.nilCheck (Operand.tmp 10)
      intro Q
      have e10 : a'.eval (.tmp 10) = .pointer (some ⟨D, 0, none⟩) := KS_val (Deps.val hd 0 10 (by decide +kernel)) rfl
      clear hd hk
      exact wp_value (.pointer (some ⟨D, 0, none⟩)) (by simp only [execOp, e10]; go_simp) (KS_mkv rfl rfl)
    · -- 2: Op.fieldAddr 55 (Operand.tmp 11) 1
      intro Q
      have e11 : a'.eval (.tmp 11) = .pointer (some ⟨D, 0, none⟩) := KS_val (Deps.val hd 1 11 (by decide +kernel)) rfl
      clear hd hk
      exact wp_value (.pointer (some ⟨D, 1, none⟩)) (by simp only [execOp, e11]; go_simp) (KS_mkv rfl rfl)
    · -- 3: Op.load 47 (Operand.tmp 12)
      intro Q
      have e12 : a'.eval (.tmp 12) = .pointer (some ⟨D, 1, none⟩) := KS_val (Deps.val hd 2 12 (by decide +kernel)) rfl
      have c := (HD.out.kept hg).cell (j := 1) rfl
      clear hd hk
      exact wp_value (.slice ka nk ck) (by simp only [execOp, e12]; go_simp) (KS_mkv rfl rfl)
    · -- 4: Op.load 9 (Operand.tmp 2)
      intro Q
      have e2 : a'.eval (.tmp 2) = .pointer (some ⟨B1, 0, none⟩) := hk.at 2 (by decide +kernel)
      have c := (bF.out.kept hg).cell (j := 0) rfl
      clear hd hk
      exact wp_value (.string fa) (by simp only [execOp, e2]; go_simp) (KS_mkv rfl rfl)
    · -- 5: Op.call ( callee := Callee.value (Operand.func 52), args := 
      intro Q
      have e13 : a'.eval (.tmp 13) = .slice ka nk ck := KS_val (Deps.val hd 3 13 (by decide +kernel)) rfl
      have e14 : a'.eval (.tmp 14) = .string fa := KS_val (Deps.val hd 4 14 (by decide +kernel)) rfl
      refine wp_call 94 _ (run_enter 94 _ _ rfl (by kernel_rfl)) ?_
      simp only [List.map_toArray, List.map_nil, List.map_cons, e13, e14]
      refine (bsearch_any (HK.out.kept hg) HSR.out (by rw [HNK.out]; omega) fa).mono ?_
      rintro e_ w_ ⟨rfl, hw_⟩
      subst w_
      rw [Hp.out, Hfd.out]
      exact ⟨_, rfl, KS_mkv rfl rfl, Gr.refl _⟩
    · -- 6: Op.move (Operand.tmp 15)
      intro Q
      have e15 : a'.eval (.tmp 15) = .tuple #[.int .i64 (p : Int), .bool fd] := KS_val (Deps.val hd 5 15 (by decide +kernel)) rfl
      exact wp_value _ (by simp only [execOp, e15]; rfl) (KS_mkv rfl rfl)
    · -- 7: Op.extract (Operand.tmp 9) 0
      intro Q
      have e9 : a'.eval (.tmp 9) = .tuple #[.int .i64 (p : Int), .bool fd] := KS_val (Deps.val hd 6 9 (by decide +kernel)) rfl
      clear hd hk
      exact wp_value (.int .i64 (p : Int)) (by simp only [execOp, e9]; go_simp) (KS_mkv rfl rfl)
    · -- 8: Op.extract (Operand.tmp 9) 1
      intro Q
      have e9 : a'.eval (.tmp 9) = .tuple #[.int .i64 (p : Int), .bool fd] := KS_val (Deps.val hd 6 9 (by decide +kernel)) rfl
      clear hd hk
      exact wp_value (.bool fd) (by simp only [execOp, e9]; go_simp) (KS_mkv rfl rfl)
    · -- 9: Op.assign (Operand.tmp 16)
      intro Q
      have e16 : a'.eval (.tmp 16) = .int .i64 (p : Int) := KS_val (Deps.val hd 7 16 (by decide +kernel)) rfl
      exact wp_value _ (by simp only [execOp, e16]; rfl) (KS_mkv rfl rfl)
    · -- 10: Op.assign (Operand.tmp 17)
      intro Q
      have e17 : a'.eval (.tmp 17) = .bool fd := KS_val (Deps.val hd 8 17 (by decide +kernel)) rfl
      exact wp_value _ (by simp only [execOp, e17]; rfl) (KS_mkv rfl rfl)
  · intro a' w5 hsz hdf hk hall hg
    have e10 : a'.eval (.tmp 10) = .pointer (some ⟨D, 0, none⟩) := KS_val (hall 0 _ 10 rfl rfl) rfl
    have e11 : a'.eval (.tmp 11) = .pointer (some ⟨D, 0, none⟩) := KS_val (hall 1 _ 11 rfl rfl) rfl
    have e12 : a'.eval (.tmp 12) = .pointer (some ⟨D, 1, none⟩) := KS_val (hall 2 _ 12 rfl rfl) rfl
    have e13 : a'.eval (.tmp 13) = .slice ka nk ck := KS_val (hall 3 _ 13 rfl rfl) rfl
    have e14 : a'.eval (.tmp 14) = .string fa := KS_val (hall 4 _ 14 rfl rfl) rfl
    have e15 : a'.eval (.tmp 15) = .tuple #[.int .i64 (p : Int), .bool fd] := KS_val (hall 5 _ 15 rfl rfl) rfl
    have e9 : a'.eval (.tmp 9) = .tuple #[.int .i64 (p : Int), .bool fd] := KS_val (hall 6 _ 9 rfl rfl) rfl
    have e16 : a'.eval (.tmp 16) = .int .i64 (p : Int) := KS_val (hall 7 _ 16 rfl rfl) rfl
    have e17 : a'.eval (.tmp 17) = .bool fd := KS_val (hall 8 _ 17 rfl rfl) rfl
    have e5 : a'.eval (.tmp 5) = .int .i64 (p : Int) := KS_val (hall 9 _ 5 rfl rfl) rfl
    have e6 : a'.eval (.tmp 6) = .bool fd := KS_val (hall 10 _ 6 rfl rfl) rfl
    have ha := act_puts 45 rfl hsz hdf hk [10, 11, 12, 13, 14, 15, 9, 16, 17, 5, 6] (by decide +kernel)
    simp only [puts, List.foldl_cons, List.foldl_nil, e10, e11, e12, e13, e14, e15, e9, e16, e17, e5, e6] at ha
    simp only [Act.put, List.setIfInBounds_toArray, List.set_cons_succ, List.set_cons_zero] at ha
    clear hall hk hsz hdf e10 e11 e12 e13 e14 e15 e9 e16 e17 e5 e6
    subst ha
    have G5 := hide (show Below W.heap.size W w5 from hg)
    clear hg
    have c0 := (bS.out.kept G5.out).cell (j := 0) rfl
    have c1 := (HD.out.kept G5.out).cell (j := 1) rfl
    obtain ⟨ka', hsl, -, hrd'⟩ := slice_G (E := KE) (P := Tryz.prog) Tryz.underlying63 Tryz.size9 ka nk ck p hpn HK.out.cap
    have HRD := hide hrd'
    clear hrd'
    have C5 : Hid (Chg G w w5) := hcW.out.trans (Chg.of_below G5.out)
    have J5 : Hid (J [] w5) := HJ.out _ _ _ H0.out G5.out
    gi_wp2_with fail
    gi_loopw [25] (fun x wr => ∃ (pre : List Rng) (j : Nat), x = .int .i64 (j : Int) ∧ j ≤ nk - p ∧ Hid (J pre wr) ∧ Hid (Chg G w wr) ∧ Hid (pre.map (·.1) = (ks.drop p).take j ∧ pre.length = j ∧ ∀ i (hi : i < (ks.drop p).length), i < j → lt (ks.drop p)[i] tb = true)) (fun x _ => nk - p - (intOf x).toNat)
    case atStart => exact ⟨[], 0, rfl, Nat.zero_le _, J5, C5, ⟨by simp, rfl, fun i _ h => by omega⟩⟩
    case round =>
      obtain ⟨pre, j, rfl, hjn, HP, HC, HL⟩ := hrel
      have hdl : (ks.drop p).length = nk - p := by rw [List.length_drop, HNK.out]
      by_cases hj : j < nk - p
      · have q1 : (j : Int) < ((nk - p : Nat) : Int) := by omega
        have HSr := hide (HST.out.chg HC.out HGM.out HGC.out)
        have hrd := hide (HRD.out _ _ HSr.out.kk.rd)
        obtain ⟨b, off, rfl, hlb, hx⟩ := hrd.out.nth (by omega)
        have hmk : j < (ks.drop p).length := by omega
        have ck0 : wr.cell? ⟨b, off + j, none⟩ = some (.string (ks.drop p)[j]) := by
          have := hx j hmk 0 _ rfl
          simpa [KE] using this
        have HKY0 : Hid ((ks.drop p)[j]? = some (ks.drop p)[j]) := List.getElem?_eq_getElem hmk
        obtain ⟨ky, HKY⟩ : ∃ k, Hid ((ks.drop p)[j] = k) := ⟨(ks.drop p)[j], (show (ks.drop p)[j] = _ from rfl)⟩
        rw [HKY.out] at ck0 HKY0
        have hmem : ky ∈ ks.drop p := by rw [← HKY.out]; exact List.getElem_mem hmk
        have hks : ky.size ≤ maxLen := by have := HST.out.sz ky (List.mem_of_mem_drop hmem); simp only [maxLen]; omega
        have hge : Hid (lt ky fa = false) := (show _ = _ from lb_drop HSR.out ky (by rw [Hp.out]; exact hmem))
        have d0 := (hb0.out.chg HC.out hG0).cell (j := 0) rfl
        have d2 := (hb2.out.chg HC.out hG2).cell (j := 0) rfl
        have m0 := HSr.out.d.cell (j := 0) rfl
        obtain ⟨vc, hvc, -, hlk⟩ := HSr.out.mp.look_all ky hks
        have hlk' := hlk wr (Below.refl _ _)
        have HVC := hide hvc
        have hsge := sge
        clear hx hlk hvc hmem
        obtain ⟨q, hq⟩ : ∃ q, lt ky tb = q := ⟨_, rfl⟩
        cases q with
        | false =>
          gi_wp2_with fail
          refine ⟨fun _ _ => trivial, ?_⟩
          gi_wp2_with fail
          refine bodyPost_ret (results_none rfl _ _ _) rfl ?_
          refine ⟨⟨_, rfl⟩, .inl ⟨pre, ?_, HP.out⟩⟩
          have hfr := filter_range HSR.out fa tb (j := j)
          rw [Hp.out] at hfr
          rw [HL.out.1, hfr HL.out.2.2 (fun hi => by rw [HKY.out]; exact hq)]
        | true =>
          obtain ⟨fn, tmps, assign, body, hy, hR⟩ := HY.out pre (ky, vc) wr HP.out ⟨by rw [Hp.out, HL.out.2.1]; exact HL.out.1, by rw [Hp.out, HL.out.2.1]; exact HKY0.out, by unfold inr; rw [hge.out, hq]; rfl, HVC.out.rd, trivial⟩
          simp only [rgV] at hy
          have HRR := hide hR
          have HQ := hide hq
          clear hR
          gi_wp2_with fail
          refine ⟨fun h => by simp [Fence.wide] at h, HRR.out.mono ?_⟩
          rintro e w3 ⟨hc3, ⟨rfl, hj3⟩ | ⟨rfl, hj3⟩⟩
          · gi_wp2_with fail
            go_roundw
            case rel =>
              refine ⟨pre ++ [(ky, vc)], j + 1, by go_num, by omega, hj3, HC.out.trans hc3, ⟨?_, by rw [List.length_append, HL.out.2.1]; rfl, fun i hi hij => ?_⟩⟩
              · rw [List.map_append, HL.out.1, List.take_succ_eq_append_getElem hmk, HKY.out]
                rfl
              · by_cases hij' : i < j
                · exact HL.out.2.2 i hi hij'
                · obtain rfl : i = j := by omega
                  rw [HKY.out]
                  exact HQ.out
            case measure => simp only [intOf]; omega
          · gi_wp2_with fail
            refine bodyPost_ret (results_none rfl _ _ _) rfl ?_
            exact ⟨⟨_, rfl⟩, .inr ⟨_, hj3⟩⟩
      · obtain rfl : j = nk - p := by omega
        have q1 : ¬ ((nk - p : Nat) : Int) < ((nk - p : Nat) : Int) := by omega
        gi_wp2_with fail
        refine bodyPost_end (results_none rfl _ _ _) rfl ?_
        refine ⟨⟨_, rfl⟩, .inl ⟨pre, ?_, HP.out⟩⟩
        have hfr := filter_range HSR.out fa tb (j := nk - p)
        rw [Hp.out] at hfr
        rw [HL.out.1, hfr HL.out.2.2 (fun hi => by omega)]
set_option maxRecDepth 100000 in
theorem between_any (D : Nat) (a b : ByteArray) (w : World) : Calls Tryz.prog 82 #[.pointer (some ⟨D, 0, none⟩), .string a, .string b] w fun e w' => e = .returned (.func (.func 104) #[] #[.pointer (some ⟨w.heap.size, 0, none⟩), .pointer (some ⟨w.heap.size + 1, 0, none⟩), .pointer (some ⟨w.heap.size + 2, 0, none⟩)]) ∧ w' = ((w.alloc (.cells #[.pointer (some ⟨D, 0, none⟩)] 29)).alloc (.cells #[.string a] 9)).alloc (.cells #[.string b] 9) := by
  go_enter Tryz.func82, Tryz.ntmps82
  go_wp2
  go_ret
  exact ⟨rfl, rfl⟩
end Go.Proofs.YtcicekggeampcaaGreat

/-
  Within: what the call does.
-/
namespace Go.Proofs.YtcicekggeampcaaGreat
open Go.RowKit Go.Shelf
attribute [local go_sem] Oper.semAt_some
/-- What Within's variables hold. -/
structure WiI (w4 : World) (S0 : Nat) (s : SP) (n : Int) (pre : List Rng) (W : World) : Prop where
  b0 : Blk W S0 3 [.int .i64 n]
  b1 : Blk W (S0 + 1) 4 [.bool false]
  no : ∀ x ∈ pre, wroteS s x.1 n = false
  c : Chg (fun k => k = S0 + 1 ∨ w4.heap.size ≤ k) w4 W
structure WiX (w4 : World) (S0 : Nat) (s : SP) (ks : List ByteArray) (fa tb : ByteArray) (n : Int) (W : World) : Prop where
  b1 : Blk W (S0 + 1) 4 [.bool true]
  yes : withinS s ks fa tb n = true
  c : Chg (fun k => k = S0 + 1 ∨ w4.heap.size ≤ k) w4 W
theorem RdV.put {w : World} {v : Value} {L : List Ver} (h : RdV w v L) {k : Nat} {r : Loop} (o : Obj) (hk : w.heap[k]? = some (.loop r)) : RdV (w.putObj k o) v L := by
  obtain ⟨a, cap, rfl, h1, h2, h3, h4⟩ := h
  refine ⟨a, cap, rfl, h1, h2, h3, fun hl => ?_⟩
  obtain ⟨b, off, rfl, hlt, hc⟩ := h4 hl
  refine ⟨b, off, rfl, by simpa using hlt, fun j u hj => ?_⟩
  rw [← hc j u hj]
  by_cases hbk : b = k
  · subst hbk
    have h0 := hc 0
    have hp : 0 < (VCs L).length := by rw [VCs_length]; omega
    have := h0 _ (List.getElem?_eq_getElem hp)
    simp [World.cell?, hk] at this
  · simp only [World.cell?]
    rw [World.putObj_heap_other hbk]
end Go.Proofs.YtcicekggeampcaaGreat

/-
  Scan: what the call does.
-/
namespace Go.Proofs.YtcicekggeampcaaGreat
open Go.RowKit Go.Shelf
attribute [local go_sem] Oper.semAt_some
theorem wpListIn_append_G {α : Type} {E : Enc α} {F : Fence} {nF : Nat} {P : Program} (w : World) {ops : Array Oper} {rest : List Oper} {o : Oper} {a : Act} {Q : Exit → Act → World → Prop} (hgd : o.guard = none) (s x : Operand) (t tx : TypeId)
    (ho : o.op = .call { callee := .builtin .append, args := #[s, x], argTypes := #[t, tx] })
    (base : Nat) (e : TypeId) (z : Value) (bytes : Nat) (ht : P.underlying t = some (.slice e)) (hi : (P.info? e).map (fun i => (i.zero, i.size, i.bytes)) = some (some z, E.n, bytes)) (hzs : z.cells.size = E.n)
    (v : Value) (L : List α) (hv : a.eval s = v) (hown : OwnG E w base e v L)
    (xv : Value) (M : List α) (hx : a.eval x = xv) (hr : RdG E w xv M) (e' : TypeId) (htx : P.underlying tx = some (.slice e'))
    (hlen : (L.length + M.length) * bytes ≤ 140737488355328) (hm : L.length + M.length ≤ maxLen) (hbase : base ≤ w.heap.size)
    (h : ∀ v' w', OwnG E w' base e v' (L ++ M) → w.grownBy w' v.ownBlock → wpListIn F nF P ops Q rest (a.put o.dst v') w') : wpListIn F nF P ops Q (o :: rest) a w := by
  obtain ⟨i, hi0, hz0, hz1, hz2⟩ := info_parts hi
  refine wpListIn_plain hgd fun K hK => ?_
  obtain ⟨v', w', hr, h2, h3, -⟩ := run_append_at (P := P) w base t tx o.type e i z E.n bytes ht hi0 hz0 hz1 hz2 hzs v L.length (E.cs L) hown xv M.length (E.cs M) (hr.src tx e' htx) hm hlen hbase
  unfold Oper.wpIn
  refine ⟨by simp [Oper.about, ho, resolve, Target.leads, Sem.run_pure], ?_⟩
  rw [Oper.semAt_plain F _ _ (by rw [ho]; intro c hc'; cases hc')]
  simp [execOp, ho, resolve, invoke, builtin, hv, hx, hr, Result.andThen]
  refine hK _ _ (h v' w' ?_ h3)
  unfold OwnG
  rw [List.length_append, Enc.cs_append]
  exact h2
theorem filter_prefix {ks : List ByteArray} (hs : Srt ks) (a b : ByteArray) {j : Nat} {k : ByteArray} (hk : (ks.drop (lb ks a))[j]? = some k) (hb : lt k b = true) : ∃ rest, ks.filter (inr a b) = (ks.drop (lb ks a)).take j ++ rest := by
  have hd := srt_drop hs (lb ks a)
  have hj : j < (ks.drop (lb ks a)).length := (List.getElem?_eq_some_iff.1 hk).1
  have hjk : (ks.drop (lb ks a))[j] = k := (List.getElem?_eq_some_iff.1 hk).2
  have h1 : ks = ks.take (lb ks a) ++ ((ks.drop (lb ks a)).take j ++ (ks.drop (lb ks a)).drop j) := by rw [List.take_append_drop, List.take_append_drop]
  refine ⟨((ks.drop (lb ks a)).drop j).filter (inr a b), ?_⟩
  conv => lhs; rw [h1]
  rw [List.filter_append, List.filter_append]
  have e1 : (ks.take (lb ks a)).filter (inr a b) = [] := by
    rw [List.filter_eq_nil_iff]
    intro k hk
    unfold inr
    rw [lb_take hs k hk]
    simp
  have e2 : ((ks.drop (lb ks a)).take j).filter (inr a b) = (ks.drop (lb ks a)).take j := by
    rw [List.filter_eq_self]
    intro k' hk'
    obtain ⟨i, hi, rfl⟩ := List.getElem_of_mem hk'
    rw [List.length_take] at hi
    rw [List.getElem_take]
    have hlt := (List.pairwise_iff_getElem.1 hd) i j (by omega) hj (by omega)
    rw [hjk] at hlt
    unfold inr
    rw [lb_drop hs _ (List.getElem_mem _), lt_trans hlt hb]
    rfl
  rw [e1, e2, List.nil_append]
def outL (s : SP) (n : Int) (pre : List Rng) : List Pr := (pre.map (·.1)).filterMap (scan1 s n)
theorem outL_snoc (s : SP) (n : Int) (pre : List Rng) (x : Rng) : outL s n (pre ++ [x]) = outL s n pre ++ (scan1 s n x.1).toList := by
  unfold outL
  rw [List.map_append, List.filterMap_append]
  cases h : scan1 s n x.1 <;> simp [h]
/-- What Scan's variables hold. -/
structure ScI (w4 : World) (S0 : Nat) (s : SP) (n mo : Int) (pre : List Rng) (W : World) : Prop where
  b0 : Blk W S0 3 [.int .i64 n]
  b1 : Blk W (S0 + 1) 3 [.int .i64 mo]
  b2 : ∃ vo, Blk W (S0 + 2) 35 [vo] ∧ OwnG PE W w4.heap.size 51 vo (outL s n pre)
  le : (outL s n pre).length ≤ mo.toNat
  c : Chg (fun k => k = S0 + 2 ∨ w4.heap.size ≤ k) w4 W
structure ScX (w4 : World) (S0 : Nat) (L : List Pr) (W : World) : Prop where
  b2 : ∃ vo, Blk W (S0 + 2) 35 [vo] ∧ OwnG PE W w4.heap.size 51 vo L
  c : Chg (fun k => k = S0 + 2 ∨ w4.heap.size ≤ k) w4 W
theorem ScI.kept {w4 : World} {S0 : Nat} {s : SP} {n mo : Int} {pre : List Rng} {W W' : World} (h : ScI w4 S0 s n mo pre W) (hb : Below W.heap.size W W') : ScI w4 S0 s n mo pre W' := by
  obtain ⟨vo, h1, h2⟩ := h.b2
  exact ⟨h.b0.kept hb, h.b1.kept hb, ⟨vo, h1.kept hb, h2.kept hb⟩, h.le, h.c.trans (Chg.of_below hb)⟩
theorem ScX.kept {w4 : World} {S0 : Nat} {L : List Pr} {W W' : World} (h : ScX w4 S0 L W) (hb : Below W.heap.size W W') : ScX w4 S0 L W' := by
  obtain ⟨vo, h1, h2⟩ := h.b2
  exact ⟨⟨vo, h1.kept hb, h2.kept hb⟩, h.c.trans (Chg.of_below hb)⟩
theorem OwnG.put {α : Type} {E : Enc α} {w : World} {B : Nat} {e : TypeId} {v : Value} {L : List α} (h : OwnG E w B e v L) {k : Nat} {o : Obj} (o' : Obj) (hk : w.heap[k]? = some o) (ho : o.isCells = false) : OwnG E (w.putObj k o') B e v L := ownsRow_putObj h o' hk ho
theorem ScI.put {w4 : World} {S0 : Nat} {s : SP} {n mo : Int} {pre : List Rng} {W : World} (h : ScI w4 S0 s n mo pre W) {l : Nat} {o : Obj} (o' : Obj) (hk : W.heap[l]? = some o) (ho : o.isCells = false) (hl : w4.heap.size ≤ l) (hS : S0 + 2 < w4.heap.size) : ScI w4 S0 s n mo pre (W.putObj l o') := by
  obtain ⟨vo, h1, h2⟩ := h.b2
  have hc := chg_put (G := fun k => k = l) (W := W) (l := l) rfl o'
  exact ⟨h.b0.chg hc (by omega), h.b1.chg hc (by omega), ⟨vo, h1.chg hc (by omega), h2.put o' hk ho⟩, h.le, h.c.then hc (fun i hi e => by omega)⟩
theorem ScX.put {w4 : World} {S0 : Nat} {L : List Pr} {W : World} (h : ScX w4 S0 L W) {l : Nat} {o : Obj} (o' : Obj) (hk : W.heap[l]? = some o) (ho : o.isCells = false) (hl : w4.heap.size ≤ l) (hS : S0 + 2 < w4.heap.size) : ScX w4 S0 L (W.putObj l o') := by
  obtain ⟨vo, h1, h2⟩ := h.b2
  have hc := chg_put (G := fun k => k = l) (W := W) (l := l) rfl o'
  exact ⟨⟨vo, h1.chg hc (by omega), h2.put o' hk ho⟩, h.c.then hc (fun i hi e => by omega)⟩
set_option maxRecDepth 100000 in
set_option maxHeartbeats 4000000 in
theorem scan_any {w : World} {D M : Nat} {vk : Value} {ks : List ByteArray} {s : SP} (h : StAt w D M vk ks s) (hN : ks.length ≤ 1000000) (hla : s.last ≤ 1000000) (fa tb : ByteArray) (n mo : Int) :
    Calls Tryz.prog 55 #[.pointer (some ⟨D, 0, none⟩), .string fa, .string tb, .int .i64 n, .int .i64 mo] w fun e w' => ∃ v', e = .returned (.tuple #[v', .int .i64 (scanS s ks fa tb n mo).2]) ∧ OwnG PE w' w.heap.size 51 v' (scanS s ks fa tb n mo).1 ∧ Below w.heap.size w w' := by
  obtain ⟨N0, -⟩ : ∃ n : Nat, True := ⟨9, trivial⟩
  have HS := hide h
  obtain ⟨rl, re, Hr⟩ : ∃ x y, Hid (scanS s ks fa tb n mo = (x, y)) := ⟨_, _, rfl⟩
  rw [Hr.out]
  simp only
  obtain ⟨mr, Hmr⟩ : ∃ r, Hid (smayP s n = r) := ⟨_, rfl⟩
  have HR2 : Hid ((rl, re) = if mr = 0 then ((scanL s ks fa tb n).take mo.toNat, 0) else ([], mr)) := (show _ = _ by rw [← Hr.out]; unfold scanS; rw [Hmr.out])
  clear h
  refine (callsIn_wide (n := N0)).1 ?_
  refine callsIn_of_wp_marks Tryz.func55 rfl trivial ?_ rfl
  simp only [Tryz.ntmps55, List.size_toArray, List.length_cons, List.length_nil, Nat.reduceAdd, Nat.reduceSub, Array.replicate_succ, Array.replicate_zero, List.push_toArray, List.append_toArray, List.nil_append, List.cons_append]
  have A2 : Hid (Below w.heap.size w ((w.alloc (.cells #[.int .i64 n] 3)).alloc (.cells #[.int .i64 mo] 3))) := ((Below.refl _ _).alloc (Nat.le_refl _) _).alloc (by simp) _
  have b0 : Hid (Blk ((w.alloc (.cells #[.int .i64 n] 3)).alloc (.cells #[.int .i64 mo] 3)) w.heap.size 3 [.int .i64 n]) := (Blk.new w 3 [.int .i64 n]).alloc _
  have b1 : Hid (Blk ((w.alloc (.cells #[.int .i64 n] 3)).alloc (.cells #[.int .i64 mo] 3)) (w.heap.size + 1) 3 [.int .i64 mo]) := (show Blk _ _ _ _ by
    have := Blk.new (w.alloc (.cells #[.int .i64 n] 3)) 3 [.int .i64 mo]
    rw [World.size_alloc] at this
    exact this)
  have sz : Hid (((w.alloc (.cells #[.int .i64 n] 3)).alloc (.cells #[.int .i64 mo] 3)).heap.size = w.heap.size + 2) := (show _ = _ by simp)
  have HST := hide (HS.out.kept A2.out)
  have HAK := hide (sAsked_any s.ch HST.out.d n)
  have em : (⟨s.ch, s.last, s.floor⟩ : SP) = s := rfl
  rw [em, Hmr.out] at HAK
  clear em
  gi_wp2_with fail
  refine wide_call HAK.out ?_
  rintro e w1 ⟨rfl, hw⟩
  rw [← hw] at A2 b0 b1 sz HST
  clear hw HAK
  obtain ⟨S0, HS0⟩ : ∃ s, Hid (w.heap.size = s) := ⟨_, rfl⟩
  rw [HS0.out] at b0 b1 sz ⊢
  by_cases hmr : mr = 0
  · subst hmr
    have hrl : rl = (scanL s ks fa tb n).take mo.toNat := by have := HR2.out; simp at this; exact this.1
    have hre : re = 0 := by have := HR2.out; simp at this; exact this.2
    subst hre
    have HRL := hide hrl
    clear hrl HR2
    have A3 : Hid (Below w1.heap.size w1 (w1.alloc (.cells #[.slice none 0 0] 35))) := (Below.refl _ _).alloc (Nat.le_refl _) _
    have b2 := hide (Blk.new w1 35 [.slice none 0 0])
    have s3 : Hid ((w1.alloc (.cells #[.slice none 0 0] 35)).heap.size = S0 + 3) := (show _ = _ by simp [sz.out])
    rw [sz.out] at b2
    gi_wp2_with fail
    refine wide_call (between_any D fa tb _) ?_
    rintro e w4 ⟨rfl, hw4⟩
    simp only [World.size_alloc, sz.out]
    have c0 : Hid (Blk w4 (S0 + 3) 29 [.pointer (some ⟨D, 0, none⟩)]) := (show Blk _ _ _ _ by
      have := ((Blk.new (w1.alloc (.cells #[.slice none 0 0] 35)) 29 [.pointer (some ⟨D, 0, none⟩)]).alloc (.cells #[.string fa] 9)).alloc (.cells #[.string tb] 9)
      rw [World.size_alloc, sz.out] at this
      rw [hw4]
      exact this)
    have c1 : Hid (Blk w4 (S0 + 4) 9 [.string fa]) := (show Blk _ _ _ _ by
      have := (Blk.new ((w1.alloc (.cells #[.slice none 0 0] 35)).alloc (.cells #[.pointer (some ⟨D, 0, none⟩)] 29)) 9 [.string fa]).alloc (.cells #[.string tb] 9)
      rw [World.size_alloc, World.size_alloc, sz.out] at this
      rw [hw4]
      exact this)
    have c2 : Hid (Blk w4 (S0 + 5) 9 [.string tb]) := (show Blk _ _ _ _ by
      have := Blk.new (((w1.alloc (.cells #[.slice none 0 0] 35)).alloc (.cells #[.pointer (some ⟨D, 0, none⟩)] 29)).alloc (.cells #[.string fa] 9)) 9 [.string tb]
      rw [World.size_alloc, World.size_alloc, World.size_alloc, sz.out] at this
      rw [hw4]
      exact this)
    have G4 : Hid (Below (w1.alloc (.cells #[.slice none 0 0] 35)).heap.size (w1.alloc (.cells #[.slice none 0 0] 35)) w4) := (show Below _ _ _ by rw [hw4]; exact (((Below.refl _ _).alloc (Nat.le_refl _) _).alloc (by simp) _).alloc (by simp) _)
    have s4 : Hid (w4.heap.size = S0 + 6) := (show _ = _ by rw [hw4]; simp [sz.out])
    clear hw4
    have G14 : Hid (Below w1.heap.size w1 w4) := A3.out.trans (G4.out.mono A3.out.size)
    have d0 := hide (b0.out.kept G14.out)
    have d1 := hide (b1.out.kept G14.out)
    have d2 := hide (b2.out.kept G4.out)
    have HS4 := hide (HST.out.kept G14.out)
    have hlow : Hid (∀ b, Mine D M vk b → b < S0) := (show ∀ b, _ from fun b hb => by have := HS.out.lt hb; rw [HS0.out] at this; exact this)
    have L4 : Hid (Below w.heap.size w w4) := A2.out.trans (G14.out.mono A2.out.size)
    gi_wp2_with fail
    refine wp_ranged2 (n := N0) (gf := 104) (lb := #[.pointer (some ⟨S0 + 3, 0, none⟩), .pointer (some ⟨S0 + 4, 0, none⟩), .pointer (some ⟨S0 + 5, 0, none⟩)]) rfl (enters_of Tryz.func104 (by kernel_rfl) rfl) (encs := rgV) (fun _ => rfl) (R := rgR ks s.ch fa tb) (S := fun xs => xs.map (·.1) = ks.filter (inr fa tb)) (ScI w4 S0 s n mo) (fun c _ W => c = .exit 0 ∧ ScX w4 S0 rl W) ?ip ?xp ?ib ?xb ?rp ?h0 (G := fun k => k = S0 + 2 ∨ w4.heap.size ≤ k) (fun k hk => .inr hk)
      (between1_hands (N0 - 1) (S0 + 3) (S0 + 4) (S0 + 5) D M vk ks s fa tb w4 HS4.out hN c0.out c1.out c2.out ?g0 ?g1 ?g2 ?g3 ?g4)
      (fun y => { tmps := #[.pointer (some ⟨D, 0, none⟩), .string fa, .string tb, .int .i64 n, .int .i64 mo, undef, undef, undef, .pointer (some ⟨S0, 0, none⟩), .pointer (some ⟨S0 + 1, 0, none⟩), .slice none 0 0, .int .i64 0, .int .i64 0, .pointer (some ⟨S0 + 2, 0, none⟩), .string y.1, y.2, undef, undef, .pointer (some ⟨D, 0, none⟩), .int .i64 n, .int .i64 0, .int .i64 0, .bool false, undef, .pointer (some ⟨D, 0, none⟩), .string fa, .string tb, .func (.func 104) #[] #[.pointer (some ⟨S0 + 3, 0, none⟩), .pointer (some ⟨S0 + 4, 0, none⟩), .pointer (some ⟨S0 + 5, 0, none⟩)], .string y.1, y.2, undef, undef, undef, undef, undef, undef, undef, undef, undef, undef, undef, undef, undef, undef, undef, undef, undef, undef, undef], defers := [] }) ?assign ?body ?done ?left
    case g0 => have := s4.out; omega
    case g1 => have := s4.out; omega
    case g2 => have := s4.out; omega
    case g3 =>
      intro b hb h
      have := hlow.out b hb
      have := s4.out
      omega
    case g4 =>
      intro b cur hb h
      have hlt : b < w4.heap.size := (Array.getElem?_eq_some_iff.1 hb).1
      rcases h with rfl | h
      · have := d2.out
        unfold Blk at this
        rw [hb] at this
        cases this
      · omega
    case ip => exact fun pre W l r o hl hW hI => hI.put o hW rfl hl (by have := s4.out; omega)
    case xp => exact fun c pre W l r o hl hW ⟨hc, hI⟩ => ⟨hc, hI.put o hW rfl hl (by have := s4.out; omega)⟩
    case ib => exact fun pre X Y hI hb => hI.kept hb
    case xb => exact fun c pre X Y ⟨hc, hI⟩ hb => ⟨hc, hI.kept hb⟩
    case rp =>
      rintro pre x W l r o hl hW ⟨h1, h2, h3, h4, h5⟩
      exact ⟨h1, h2, h3, h4.put o hW, h5⟩
    case h0 => exact ⟨d0.out, d1.out, ⟨_, d2.out, ownG_nil _ _ _⟩, by simp [outL], Chg.refl _ _⟩
    case assign =>
      intro l y W K' hK
      simp only [rgV]
      gi_wp2
      exact hK
    case body =>
      rintro l pre ⟨ky, vc⟩ W hle hI ⟨hR1, hR2, hR3, hR4, -⟩
      obtain ⟨vo, ho1, ho2⟩ := hI.b2
      obtain ⟨oa, oc, rfl⟩ := ho2.rd.slice
      obtain ⟨ol, HOL⟩ : ∃ x, Hid ((outL s n pre).length = x) := ⟨_, rfl⟩
      rw [HOL.out] at ho1 ho2
      have e0 := hI.b0.cell (j := 0) rfl
      have e1 := hI.b1.cell (j := 0) rfl
      have e2 := ho1.cell (j := 0) rfl
      have HI := hide hI
      have HO1 := hide ho1
      have HO2 := hide ho2
      have HR := hide hR4
      have HRR := hide (And.intro hR1 (And.intro hR2 hR3))
      have hole := hI.le
      rw [HOL.out] at hole
      have holm : ol ≤ 9223372036854775807 := Nat.le_trans ho2.rd.cap ho2.rd.max
      have hlen : Hid ((s.ch ky).length ≤ 4398046511104) := (show (s.ch ky).length ≤ 4398046511104 by have h2 : ((s.ch ky).length : Int) ≤ s.last := HS.out.inv.len ky; omega)
      have hpl : Hid (ol ≤ 1000000) := (show ol ≤ 1000000 by
        have h1 : (outL s n pre).length ≤ pre.length := by unfold outL; exact Nat.le_trans (List.length_filterMap_le _ _) (by simp)
        have h2 : pre.length ≤ ks.length := by
          have := congrArg List.length hR1
          rw [List.length_map, List.length_take, List.length_drop] at this
          omega
        have := HOL.out
        omega)
      clear hI ho1 ho2 hR1 hR2 hR3 hR4
      by_cases hbr : mo ≤ (ol : Int)
      · have q1 : decide (mo ≤ (ol : Int)) = true := by simp [hbr]
        have HX : Hid (ScX w4 S0 rl W) := (show ScX _ _ _ _ by
          refine ⟨⟨_, HO1.out, ?_⟩, HI.out.c⟩
          have : rl = outL s n pre := by
            rw [HRL.out]
            obtain ⟨rest, hrest⟩ := filter_prefix HS.out.inv.srt fa tb HRR.out.2.1 (by have := HRR.out.2.2; unfold inr at this; simp at this; exact this.2)
            unfold scanL
            rw [hrest, List.filterMap_append, ← HRR.out.1]
            show (outL s n pre ++ _).take mo.toNat = _
            have : mo.toNat = (outL s n pre).length := by rw [HOL.out]; omega
            rw [this, List.take_left']
            rfl
          rw [this]
          have h := HO2.out
          exact h)
        gi_wp2_with fail
        exact ⟨KeepsFrom.refl _ _, Chg.refl _ _, rfl, HX.out⟩
      · have q1 : decide (mo ≤ (ol : Int)) = false := by simp; omega
        obtain ⟨gv, gb, Hg⟩ : ∃ x y, Hid (getP (s.ch ky) n = (x, y)) := ⟨_, _, rfl⟩
        have HC := hide (get_any HR.out hlen.out n)
        rw [Hg.out] at HC
        have hz := Zver
        obtain ⟨gp, gs, gd'⟩ := gv
        have HS1 : Hid (scan1 s n ky = if gb = true then some (ky, gs, false) else none) := (show _ = _ by unfold scan1; rw [Hg.out])
        simp only [VC] at HC
        gi_wp2_with fail
        refine wide_call HC.out ?_
        rintro e w5 ⟨rfl, hb5⟩
        have G5 := hide hb5
        clear hb5
        have A6 : Hid (Below w5.heap.size w5 (w5.alloc (.cells #[.int .i64 gp, .string gs, .bool gd'] 115))) := (Below.refl _ _).alloc (Nat.le_refl _) _
        have G6 : Hid (Below W.heap.size W (w5.alloc (.cells #[.int .i64 gp, .string gs, .bool gd'] 115))) := G5.out.trans (A6.out.mono G5.out.size)
        have B6 : Hid (Blk (w5.alloc (.cells #[.int .i64 gp, .string gs, .bool gd'] 115)) w5.heap.size 115 [.int .i64 gp, .string gs, .bool gd']) := Blk.new w5 115 [.int .i64 gp, .string gs, .bool gd']
        have I6 := hide (HI.out.kept G6.out)
        cases gb with
        | false =>
          gi_wp2_with fail
          obtain ⟨vo, h1, h2⟩ := I6.out.b2
          refine ⟨keeps_chg (F := fun _ => False) (Chg.of_below G6.out) (fun _ _ h => h.elim), Chg.of_below G6.out, I6.out.b0, I6.out.b1, ⟨vo, h1, ?_⟩, ?_, I6.out.c⟩
          · rw [outL_snoc, HS1.out]
            simpa using h2
          · rw [outL_snoc, HS1.out]
            simpa using I6.out.le
        | true =>
          have HO6 := hide (HO2.out.kept G6.out)
          have D6 := hide (HO1.out.kept G6.out)
          have f6 := D6.out.cell (j := 0) rfl
          have g6 := B6.out.cell (j := 1) rfl
          obtain ⟨w6, hw6⟩ : ∃ x, x = w5.alloc (.cells #[.int .i64 gp, .string gs, .bool gd'] 115) := ⟨_, rfl⟩
          have A7 : Hid (Below w6.heap.size w6 (w6.alloc (.cells #[.string ky, .string gs, .bool false] 51))) := (Below.refl _ _).alloc (Nat.le_refl _) _
          have O7 : Hid (OwnG PE (w6.alloc (.cells #[.string ky, .string gs, .bool false] 51)) w4.heap.size 51 (.slice oa ol oc) (outL s n pre)) := (show OwnG _ _ _ _ _ _ by rw [← hw6] at HO6; exact HO6.out.kept A7.out)
          have R7 : Hid (RdG PE (w6.alloc (.cells #[.string ky, .string gs, .bool false] 51)) (.slice (some ⟨w6.heap.size, 0, none⟩) 1 1) [(ky, gs, false)]) := rdG_one (E := PE) w6 51 (ky, gs, false)
          have hb1 : Hid (((outL s n pre).length + [(ky, gs, false)].length) * 40 ≤ 140737488355328) := (show ((outL s n pre).length + 1) * 40 ≤ 140737488355328 by rw [HOL.out]; have := hpl.out; omega)
          have hb2 : Hid ((outL s n pre).length + [(ky, gs, false)].length ≤ maxLen) := (show (outL s n pre).length + 1 ≤ maxLen by rw [HOL.out]; have := hpl.out; simp only [maxLen]; omega)
          have hb3 : Hid (w4.heap.size ≤ (w6.alloc (.cells #[.string ky, .string gs, .bool false] 51)).heap.size) := (show w4.heap.size ≤ _ by
            have h1 := A7.out.size
            have h2 := G6.out.size
            rw [← hw6] at h2
            omega)
          rw [hw6] at A7 O7 R7 hb3
          rw [World.size_alloc] at R7
          gi_wp2_with (gi_at_builtin; refine wpListIn_append_G _ rfl _ _ 35 35 rfl w4.heap.size 51 (.agg #[.string ⟨#[]⟩, .string ⟨#[]⟩, .bool false]) 40 Tryz.underlying35 Tryz.info51 rfl _ _ rfl O7.out _ [(ky, gs, false)] rfl R7.out 51 Tryz.underlying35 hb1.out hb2.out hb3.out ?_; intro v8 w8 o8 g8; obtain ⟨ga, gn, gc, hv8⟩ : ∃ x y z, v8 = .slice x y z := (by obtain ⟨x, y, h⟩ := o8.rd.slice; exact ⟨_, _, _, h⟩); subst hv8; have O8 := hide o8; have hc8 : Chg (fun b => (Value.slice oa ol oc).ownBlock = some b) _ w8 := Chg.of_grown g8 (fun k e _ => e); have hnb : ∀ b, (Value.slice oa ol oc).ownBlock = some b → w4.heap.size ≤ b := (fun b hb => (HO2.out.block hb).1); have D8 := hide ((D6.out.kept ((Below.refl _ _).alloc (Nat.le_refl _) _)).chg hc8 (fun e => by have := hnb _ e; have := s4.out; omega)); have c8 := D8.out.cell (j := 0) rfl; have f8 := D8.out.frozen 0; have C8 := hide hc8; clear o8 g8 hc8)
          have hA : Below W.heap.size W ((w5.alloc (.cells #[.int .i64 gp, .string gs, .bool gd'] 115)).alloc (.cells #[.string ky, .string gs, .bool false] 51)) := G6.out.trans (A7.out.mono G6.out.size)
          have hcW : Chg (fun k => k = S0 + 2 ∨ (Value.slice oa ol oc).ownBlock = some k) W (w8.setCell ⟨S0 + 2, 0, none⟩ (.slice ga gn gc)) := ((Chg.of_below hA).trans (C8.out.mono (fun _ _ e => .inr e))).trans (Chg.setCell _ (.inl rfl) 0 _)
          have hF : ∀ k, (Value.slice oa ol oc).ownBlock = some k → w4.heap.size ≤ k := fun k hk => (HO2.out.block hk).1
          have hs4 := s4.out
          refine ⟨keeps_chg hcW (fun k ob hk hb => ?_), hcW.mono (fun k _ e => ?_), ?_, ?_, ⟨_, D8.out.set 0 _, ?_⟩, ?_, HI.out.c.then hcW (fun k hk e => ?_)⟩
          · rcases hk with rfl | hk
            · have := HO1.out
              unfold Blk at this
              rw [this] at hb
              cases hb
              rfl
            · obtain ⟨_, _, cu, hcu⟩ := HO2.out.block hk
              rw [hcu] at hb
              cases hb
              rfl
          · rcases e with e | e
            · exact .inl e
            · exact .inr (hF k e)
          · exact HI.out.b0.chg hcW (fun e => by rcases e with e | e; omega; have := hF _ e; omega)
          · exact HI.out.b1.chg hcW (fun e => by rcases e with e | e; omega; have := hF _ e; omega)
          · rw [outL_snoc, HS1.out]
            refine OwnG.chg (F := fun k => k = S0 + 2) O8.out (Chg.setCell (F := fun k => k = S0 + 2) _ (b := S0 + 2) rfl 0 _) (fun b hb e => ?_)
            have := (O8.out.block hb).1
            omega
          · rw [outL_snoc, HS1.out, List.length_append, HOL.out]
            show ol + 1 ≤ mo.toNat
            omega
          · rcases e with e | e
            · exact .inl e
            · exact .inr (hF k e)
    case done =>
      rintro E xs W hE hS hI hD
      obtain ⟨vo, ho1, ho2⟩ := hI.b2
      have hout : outL s n xs = rl := by
        rw [HRL.out]
        unfold scanL
        rw [← hS]
        show _ = (outL s n xs).take mo.toNat
        rw [List.take_of_length_le hI.le]
      rw [hout] at ho2
      obtain ⟨oa, oc, hvo⟩ := ho2.rd.slice
      subst hvo
      have e2 := ho1.cell (j := 0) rfl
      have HO2 := hide ho2
      have HC := hide hI.c
      clear hI ho1 ho2 hout hS
      gi_wp2_with fail
      refine ⟨by simp, .inl ⟨_, _, rfl, run_takeDeferred hD, ?_⟩⟩
      have hs4 := s4.out
      have hp := chg_put (G := fun k => k = E) (W := W) (l := E) rfl (.deferred none)
      refine ⟨_, results_tmp2 rfl _ _ _, _, rfl, ?_, ?_⟩
      · have h1 := HO2.out.put (.deferred none) hD rfl
        exact h1.mono (by have := HS0.out; omega)
      · have hch := HC.out.then hp (G := fun k => k = E) (F := fun k => k = S0 + 2 ∨ w4.heap.size ≤ k) (fun i hi e => by subst e; omega)
        exact L4.out.trans (hch.below L4.out.size (fun k hk h => by have := HS0.out; omega))
    case left =>
      rintro E c xs W hE ⟨rfl, hI⟩ hD
      obtain ⟨vo, ho1, ho2⟩ := hI.b2
      obtain ⟨oa, oc, hvo⟩ := ho2.rd.slice
      subst hvo
      have e2 := ho1.cell (j := 0) rfl
      have HO2 := hide ho2
      have HC := hide hI.c
      clear hI ho1 ho2
      gi_wp2_with fail
      refine ⟨by simp, .inl ⟨_, _, rfl, run_takeDeferred hD, ?_⟩⟩
      have hs4 := s4.out
      have hp := chg_put (G := fun k => k = E) (W := W) (l := E) rfl (.deferred none)
      refine ⟨_, results_tmp2 rfl _ _ _, _, rfl, ?_, ?_⟩
      · have h1 := HO2.out.put (.deferred none) hD rfl
        exact h1.mono (by have := HS0.out; omega)
      · have hch := HC.out.then hp (G := fun k => k = E) (F := fun k => k = S0 + 2 ∨ w4.heap.size ≤ k) (fun i hi e => by subst e; omega)
        exact L4.out.trans (hch.below L4.out.size (fun k hk h => by have := HS0.out; omega))
  · have hmr' : decide (mr = 0) = false := by simp [hmr]
    have hrl : rl = [] := by have := HR2.out; rw [if_neg hmr] at this; simp at this; exact this.1
    have hre : re = mr := by have := HR2.out; rw [if_neg hmr] at this; simp at this; exact this.2
    subst hre
    have HRL := hide hrl
    clear hrl HR2
    gi_wp2_with fail
    exact ⟨_, results_tmp2 rfl _ _ _, _, rfl, by rw [HRL.out]; exact ownG_nil _ _ _, A2.out⟩
end Go.Proofs.YtcicekggeampcaaGreat

/-
  What a store tells of versions, over a law's own store; plain facts of it.
-/
namespace Go.Proofs.YtcicekggeampcaaGreat
open Go.RowKit
end Go.Proofs.YtcicekggeampcaaGreat

/-
  Pairs held against each other; the reference's Same: what the call does.
-/
namespace Go.Proofs.YtcicekggeampcaaGreat
open Go.RowKit
end Go.Proofs.YtcicekggeampcaaGreat

/-
  A scan of a law's own store, and what it keeps.
-/
namespace Go.Proofs.YtcicekggeampcaaGreat
open Go.RowKit
def ff : ByteArray := ⟨#[255, 255]⟩
/-- What a scan of a snapshot gave, it gives again. -/
def KeepP (s : SP) (snap : Int) (W : List Pr) : Prop := s.floor ≤ snap ∧ snap ≤ s.last ∧ ∃ ks, Inv s ks ∧ scanS s ks em ff snap 1000 = (W, 0)
theorem may0 {s : SP} {n : Int} (h1 : s.floor ≤ n) (h2 : n ≤ s.last) : smayP s n = 0 := by
  unfold smayP
  rw [if_neg (by omega), if_neg (by omega)]
theorem LS.scan {w wr : World} {D i : Nat} {s : SP} {O : Nat → Prop} (h : LS w wr D i s O) (hi : i ≤ 1000) {ks : List ByteArray} (hks : Inv s ks) (a b : ByteArray) (n mo : Int) :
    Calls Tryz.prog 55 #[.pointer (some ⟨D, 0, none⟩), .string a, .string b, .int .i64 n, .int .i64 mo] wr fun e w' => ∃ v', e = .returned (.tuple #[v', .int .i64 (scanS s ks a b n mo).2]) ∧ OwnG PE w' wr.heap.size 51 v' (scanS s ks a b n mo).1 ∧ Below wr.heap.size wr w' := by
  obtain ⟨M, vk, ks', h1, h2, h3, -⟩ := h
  obtain rfl := hks.unique h1.st.inv
  exact scan_any h1.st (by omega) (by omega) a b n mo
end Go.Proofs.YtcicekggeampcaaGreat

/-
  A region that draws its order, whose last operations wait for all ahead of them; operations may be guarded, and all of them are wanted.
-/
namespace Go.Proofs.YtcicekggeampcaaGreat
open Go.RowKit
/-- One behind the other, each of them wanted. -/
def wpSeqW (P : Program) (ops : Array Oper) (Q : Exit → Act → World → Prop) : List Oper → Act → World → Prop
  | [], a, w => Q .normal a w
  | o :: r, a, w => Region.wanted o (yielded ops a.tmps) = true ∧ o.wp P a w (fun a' w' => ∃ v, a' = a.put o.dst v ∧ wpSeqW P ops Q r a' w') Q
theorem wanted_none {o : Oper} {y : Nat → Option Bool} (h : o.guard = none) : Region.wanted o y = true := by simp [Region.wanted, h]
theorem wanted_some {ops : Array Oper} {o : Oper} {a : Act} {g : Nat} {b : Bool} (h : o.guard = some (g, b)) (d : Nat) (hd : ((ops[g]?).bind (·.dst)) = some d) (hv : a.eval (.tmp d) = .bool b) : Region.wanted o (yielded ops a.tmps) = true := by
  have hy := yielded_of hd hv
  simp [Region.wanted, h, hy]
theorem wpAny_Jw {P : Program} {ops : Array Oper} {a0 : Act} {Q : Exit → Act → World → Prop} (J : (Nat → Bool) → Act → World → Prop) (hf : formB ops a0.tmps.size = true)
    (hstep : ∀ (i : Nat) (o : Oper), ops[i]? = some o → ∀ (l : Nat → Bool) a w, J l a w → a.tmps.size = a0.tmps.size → a.defers = a0.defers → Kept ops a0 a → l i = false → waitsB o l = true →
      Region.wanted o (yielded ops a.tmps) = true ∧ o.wp P a w (fun a' w' => ∃ v, a' = a.put o.dst v ∧ J (fun k => l k || k == i) a' w') Q)
    (hQ : ∀ (l : Nat → Bool) a w, (∀ i, i < ops.size → l i = true) → J l a w → a.tmps.size = a0.tmps.size → a.defers = a0.defers → Kept ops a0 a → Q .normal a w) :
    ∀ (fuel : Nat) (listed : Array Bool) (a : Act) (w : World), listed.toList.countP (! ·) = fuel → listed.size = ops.size → a.tmps.size = a0.tmps.size → a.defers = a0.defers → Kept ops a0 a → J (fun i => listed.getD i false) a w → wpAny P .any ops Q fuel listed a w := by
  have hall : ∀ (listed : Array Bool), listed.size = ops.size → (∀ (i : Nat) (o : Oper), ops[i]? = some o → listed[i]? = some true) → ∀ i, i < ops.size → listed.getD i false = true := by
    intro listed hs h i hi
    have := h i _ (Array.getElem?_eq_getElem hi)
    rw [Array.getD_eq_getD_getElem?, this]; rfl
  have hready : ∀ (listed : Array Bool), listed.size = ops.size → Region.ready .any ops listed = [] → ∀ (i : Nat) (o : Oper), ops[i]? = some o → listed[i]? = some true := by
    intro listed hs hr i
    induction i using Nat.strongRecOn with
    | _ i ih =>
      intro o ho
      have hlt : i < ops.size := (Array.getElem?_eq_some_iff.1 ho).1
      cases hl : listed[i]? with
      | none => rw [Array.getElem?_eq_none_iff] at hl; omega
      | some b =>
        cases b with
        | true => rfl
        | false =>
          exfalso
          have hm : i ∈ Region.ready .any ops listed := by
            rw [mem_ready]
            refine ⟨by simp [hl], o, ho, fun e he hbe => ?_⟩
            have hlt' := (formB_spec hf ho).1 e he hbe
            have hoe : ops[e.on]? = some ops[e.on] := Array.getElem?_eq_getElem (by omega)
            have := ih e.on hlt' _ hoe
            simp [this]
          rw [hr] at hm
          cases hm
  intro fuel
  induction fuel with
  | zero =>
    intro listed a w hc hs ht hd hk hJ
    have hal : ∀ (i : Nat) (o : Oper), ops[i]? = some o → listed[i]? = some true := by
      intro i o ho
      have hlt : i < listed.size := by have := (Array.getElem?_eq_some_iff.1 ho).1; omega
      rw [List.countP_eq_zero] at hc
      have := hc listed[i] (by simp)
      rw [Array.getElem?_eq_getElem hlt]
      simpa using this
    exact wpAny_done hal (hQ _ a w (hall listed hs hal) hJ ht hd hk) 0
  | succ fuel ih =>
    intro listed a w hc hs ht hd hk hJ
    refine ⟨fun hr => hQ _ a w (hall listed hs (hready listed hs hr)) hJ ht hd hk, fun i hi => ?_⟩
    rw [mem_ready] at hi
    obtain ⟨h1, o, ho, hw⟩ := hi
    have hlt : i < listed.size := by have := (Array.getElem?_eq_some_iff.1 ho).1; omega
    have hfalse : listed[i] = false := by simpa [hlt] using h1
    have hli : listed.getD i false = false := by simp [hlt, hfalse]
    obtain ⟨hgd, hwp⟩ := hstep i o ho _ a w hJ ht hd hk hli (waitsB_of fun e he hb => by
      have := hw e he hb
      by_cases hlt' : e.on < listed.size
      · simpa [hlt'] using this
      · simp [hlt'] at this)
    unfold wpOp
    simp only [ho]
    rw [if_pos hgd]
    refine .inl (Oper.wp_mono ?_ hwp)
    rintro a' w' ⟨v, rfl, hJ'⟩
    refine ih _ _ _ ?_ (by simpa using hs) (put_size.trans ht) (put_defers'.trans hd) (fun t h => (eval_put_other (h i o ho)).trans (hk t h)) ?_
    · rw [Array.toList_setIfInBounds, List.countP_set (by simpa using hlt)]
      simp [hfalse, hc]
    · have e : (fun k => (listed.setIfInBounds i true).getD k false) = fun k => listed.getD k false || k == i := by
        funext k
        by_cases hki : k = i
        · subst hki; simp [hlt]
        · simp [Array.getD_eq_getD_getElem?, Array.getElem?_setIfInBounds_ne (fun e => hki e.symm), hki]
      rw [e]
      exact hJ'
/-- **WHATEVER IS KEPT OF WHAT IS DONE SO FAR.** -/
theorem wp_region_Jw {P : Program} {id : Nat} {ops : Array Oper} {Q : Exit → Act → World → Prop} {a0 : Act} {w : World} (hm : P.follows .mixedOrders = true) (J : (Nat → Bool) → Act → World → Prop)
    (n : Nat) (hn : a0.tmps.size = n) (hf : formB ops n = true) (h0 : ∀ w', w'.heap = w.heap → Gr w w' → J (fun _ => false) a0 w')
    (hstep : ∀ (i : Nat) (o : Oper), ops[i]? = some o → ∀ (l : Nat → Bool) a w, J l a w → a.tmps.size = n → a.defers = a0.defers → Kept ops a0 a → l i = false → waitsB o l = true →
      Region.wanted o (yielded ops a.tmps) = true ∧ o.wp P a w (fun a' w' => ∃ v, a' = a.put o.dst v ∧ J (fun k => l k || k == i) a' w') Q)
    (hQ : ∀ (l : Nat → Bool) a w, (∀ i, i < ops.size → l i = true) → J l a w → a.tmps.size = n → a.defers = a0.defers → Kept ops a0 a → Q .normal a w) : (Code.region id ops true).wp P Q a0 w := by
  subst hn
  refine wp_region_any hm (wpAny_Jw J hf hstep hQ ops.size _ a0 _ ?_ (by simp) rfl rfl (fun _ _ => rfl) ?_)
  · simp [List.countP_replicate]
  · have e : (fun i => (Array.replicate ops.size false).getD i false) = fun _ => false := by
      funext i
      by_cases hi : i < ops.size
      · simp [hi]
      · simp [hi]
    rw [e]
    exact h0 _ rfl ⟨rfl, rfl, rfl, Nat.le_refl _, fun _ _ => rfl⟩

structure TJw (P : Program) (ops : Array Oper) (S : Nat → World → Value → Prop) (Q : Exit → Act → World → Prop) (k : Nat) (w0 : World) (l : Nat → Bool) (a : Act) (w : World) : Prop where
  closed : Closed ops l
  left : (∀ i, k ≤ i → i < ops.size → l i = false) → (∀ (i : Nat) (o : Oper) (d : Nat), ops[i]? = some o → l i = true → o.dst = some d → S i w (a.eval (.tmp d))) ∧ Gr w0 w
  right : (∃ i, k ≤ i ∧ i < ops.size ∧ l i = true) → ∃ m, k < m ∧ m ≤ ops.size ∧ (∀ i, i < m → l i = true) ∧ (∀ i, m ≤ i → i < ops.size → l i = false) ∧ wpSeqW P ops Q (ops.toList.drop m) a w
end Go.Proofs.YtcicekggeampcaaGreat

/-
  Scans: plain facts; a row of keys beside a law's own store.
-/
namespace Go.Proofs.YtcicekggeampcaaGreat
open Go.RowKit
theorem OwnG.same {α : Type} {E : Enc α} {O : Nat → Prop} {w w' : World} {B : Nat} {e : TypeId} {v : Value} {L : List α} (h : OwnG E w B e v L) (hs : Same O w w') (hO : ∀ b, v.ownBlock = some b → O b) : OwnG E w' B e v L := by
  obtain ⟨h1, h2⟩ := h
  refine ⟨h1, ?_⟩
  rcases h2 with h2 | ⟨g, cap, cur, hv, hg, hh, r⟩
  · exact Or.inl h2
  · exact Or.inr ⟨g, cap, cur, hv, hg, by rw [hs g (hO g (by rw [hv]; rfl))]; exact hh, r⟩
/-- The keys that were written, and the store. -/
def KI (s : SP) (Ks : List ByteArray) : Prop := (∀ k, s.ch k ≠ [] → k ∈ Ks) ∧ ∀ k ∈ Ks, k.size ≤ 64
theorem scan_len {s : SP} {ks : List ByteArray} {a b : ByteArray} {n : Int} : (scanL s ks a b n).length ≤ ks.length :=
  Nat.le_trans (List.length_filterMap_le _ _) (List.length_filter_le _ _)
def hasK (l : List Pr) (k : ByteArray) : Bool := l.any fun p => decide (p.1 = k)
end Go.Proofs.YtcicekggeampcaaGreat
