/-
  Acts of the law; light: what the call does.
-/
import Derived.Test.YtcicekggeampcaaGreatSeV
namespace Go.Proofs.YtcicekggeampcaaGreat
open Go.RowKit
/-- An act: its kind and number, its key and value, whether it is strict, its pairs and where they lie. -/
structure Ac where
  kind : Int
  n : Int
  key : ByteArray
  val : ByteArray
  st : Bool
  l : List Pr
  ad : Option Addr
  cap : Nat
abbrev Ac.v (a : Ac) : Value := .slice a.ad a.l.length a.cap
def AC (a : Ac) : List Value := [.int .i64 a.kind, .int .i64 a.n, .string a.key, .string a.val, .bool a.st, a.v]
theorem AC_one (a : Ac) : ∀ u ∈ AC a, u.oneCell' = true := by
  intro u hu
  simp only [AC, List.mem_cons, List.not_mem_nil, or_false] at hu
  rcases hu with rfl | rfl | rfl | rfl | rfl | rfl <;> rfl
def AE : Enc Ac := ⟨AC, 6, fun _ => rfl, AC_one⟩
/-- What the act's parts are. -/
structure AcOk (w : World) (a : Ac) : Prop where
  r : RdG PE w a.v a.l
  s : ∀ p ∈ a.l, PrOk p
  k : a.key.size ≤ 140737488355328
  v : a.val.size ≤ 140737488355328
theorem Tryz.size37 : (Tryz.prog.info? 37).map (·.size) = some 6 := by kernel_rfl
theorem Zact15 : ∀ W : World, (zeroValue 37).run Tryz.prog W = .ok (.agg #[.int .i64 0, .int .i64 0, .string ⟨#[]⟩, .string ⟨#[]⟩, .bool false, .slice none 0 0]) W := fun W => by kernel_rfl
/-- What light lets through. -/
def Light (A : List Ac) : Prop := A.length ≤ 60 ∧ ∀ a ∈ A, a.l.length ≤ 40 ∧ a.key.size ≤ 800 ∧ a.val.size ≤ 800
theorem len_run (s : ByteArray) (n : Nat) (h : s.size = n) : ∀ W, (Builtin.len_ #[9] 3 #[.string s]).run Tryz.prog W = .ok (.int .i64 (n : Int)) W := fun W => by rw [← h]; simp [Builtin.len_, go_sem]
set_option maxHeartbeats 4000000 in
set_option maxRecDepth 100000 in
theorem light_any {w : World} {v : Value} {L : List Ac} (h : RdG AE w v L) (hok : ∀ a ∈ L, AcOk w a) : Calls Tryz.prog 4 #[v] w fun e w' => ∃ x, e = .returned (.bool x) ∧ (x = true → Light L) ∧ Below w.heap.size w w' := by
  have HL := hide h
  obtain ⟨a, cp, rfl⟩ := h.slice
  have hn : L.length ≤ 9223372036854775807 := Nat.le_trans h.cap h.max
  clear h
  have hz := Zact15
  have hz2 := Zpair
  obtain ⟨n, HN⟩ : ∃ n, Hid (L.length = n) := ⟨_, rfl⟩
  obtain ⟨N, HNw⟩ : ∃ N, Hid (w.heap.size = N) := ⟨_, rfl⟩
  rw [HN.out] at HL hn ⊢
  rw [HNw.out]
  have HOK := hide hok
  clear hok
  go_enter Tryz.func4, Tryz.ntmps4
  by_cases h60 : 60 < n
  · have q1 : decide ((60 : Int) < (n : Int)) = true := by simp; omega
    go_wp2_with fail
    go_ret
    exact ⟨false, rfl, fun h => (by cases h), Below.refl _ _⟩
  · have q1 : decide ((60 : Int) < (n : Int)) = false := by simp; omega
    have L0 : Hid (Below N w w) := Below.refl _ _
    go_wp2_with fail
    go_loopg [3, 14] (n + 1) (fun g y x wr => ∃ i s : Nat, i ≤ n ∧ g + i = n + 1 ∧ s ≤ 300 ∧ x = .int .i64 (i : Int) ∧ y = .int .i64 (s : Int) ∧ Hid (∀ j, j < i → ∀ b, L[j]? = some b → b.l.length ≤ 40 ∧ b.key.size ≤ 800 ∧ b.val.size ≤ 800) ∧ Hid (Below N w wr))
    case atStart => exact ⟨0, n, Nat.zero_le _, by omega, by omega, rfl, rfl, (show ∀ j, j < 0 → _ from fun j hj => by omega), L0⟩
    case round =>
      clear L0
      obtain ⟨i, s, hi, hgi, hs, rfl, rfl, HF, LR⟩ := hrel
      by_cases hlt : i < n
      · have q2 : (i : Int) < (n : Int) := by omega
        have bw : Below w.heap.size w wr := LR.out.mono (Nat.le_of_eq HNw.out)
        obtain ⟨b, off, rfl, hlb4, hx⟩ := (HL.out.kept bw).nth (by omega)
        have hlt' : i < L.length := by rw [HN.out]; exact hlt
        have hr : wr.rangeAt b (off + i * 6) (AC L[i]) := hx i hlt'
        obtain ⟨p, HPp⟩ : ∃ p, Hid (L[i] = p) := ⟨L[i], (show L[i] = L[i] from rfl)⟩
        rw [HPp.out] at hr
        have HA := hide (HOK.out p (by rw [← HPp.out]; exact List.getElem_mem hlt'))
        obtain ⟨E, HE⟩ : ∃ E, Hid (wr.heap.size = E) := ⟨_, rfl⟩
        obtain ⟨w4, hw4⟩ : ∃ x, x = wr.alloc (.cells (AC p).toArray 37 (0, 0)) := ⟨_, rfl⟩
        obtain ⟨B4, G4⟩ := newB HE hw4
        have HW4 := hide hw4
        have L4 : Hid (Below N w w4) := (show Below _ _ _ from LR.out.trans (G4.out.mono (by have := LR.out.size; have := HNw.out; omega)))
        have c2 := B4.out.cell (j := 2) rfl
        have c3 := B4.out.cell (j := 3) rfl
        have c5 := B4.out.cell (j := 5) rfl
        have HR2 : Hid (RdG PE w4 p.v p.l) := (show RdG _ _ _ _ from HA.out.r.kept (L4.out.mono (Nat.le_of_eq HNw.out)))
        have hk := HA.out.k
        have hv := HA.out.v
        obtain ⟨ks, HKS⟩ : ∃ x, Hid (p.key.size = x) := ⟨_, rfl⟩
        obtain ⟨vs, HVS⟩ : ∃ x, Hid (p.val.size = x) := ⟨_, rfl⟩
        obtain ⟨ln, HLN⟩ : ∃ x, Hid (p.l.length = x) := ⟨_, rfl⟩
        have rk := len_run p.key ks HKS.out
        have rv_ := len_run p.val vs HVS.out
        rw [HKS.out] at hk
        rw [HVS.out] at hv
        unfold Ac.v at c5 HR2
        rw [HLN.out] at c5 HR2
        obtain ⟨pad, HPAD⟩ : ∃ z, Hid (p.ad = z) := ⟨_, rfl⟩
        rw [HPAD.out] at c5 HR2
        have hlnmax : ln ≤ 9223372036854775807 := Nat.le_trans HR2.out.cap HR2.out.max
        clear hx hlb4 hw4 bw
        go_upto_region 7 with (first
          | (refine wpList_load_mid rfl 37 _ rfl b (off + i * 6) rfl (AC p) _ hr Tryz.underlying37 rfl Tryz.size37 ?_)
          | (refine wpList_store_new rfl 37 _ _ rfl wr _ (AC p).toArray _ rfl rfl rfl Tryz.size37 rfl (all_one (AC_one p)) ?_; rw [← HW4.out, HE.out])
          | fail)
        clear hr
        by_cases hl40 : 40 < ln
        · have q3 : decide ((40 : Int) < (ln : Int)) = true := by simp; omega
          go_wp2_with fail
          go_ret
          exact ⟨false, rfl, fun h => (by cases h), L4.out⟩
        · have q3 : decide ((40 : Int) < (ln : Int)) = false := by simp; omega
          by_cases hkv : 800 < ks + vs
          · have q4 : decide ((800 : Int) < (ks : Int) + (vs : Int)) = true := by simp; omega
            go_wp2_with fail
            go_ret
            exact ⟨false, rfl, fun h => (by cases h), L4.out⟩
          · have q4 : decide ((800 : Int) < (ks : Int) + (vs : Int)) = false := by simp; omega
            have q5 : decide ((800 : Int) < (ks : Int)) = false := by simp; omega
            have HSZ := hide HA.out.s
            go_wp2_with fail
            go_loopg [3, 41] (ln + 1) (fun g y x wt => ∃ j m : Nat, j ≤ ln ∧ g + j = ln + 1 ∧ m ≤ 300 ∧ x = .int .i64 (j : Int) ∧ y = .int .i64 (m : Int) ∧ Hid (Below N w wt))
            case atStart => exact ⟨0, s, Nat.zero_le _, by omega, hs, rfl, rfl, L4⟩
            case round =>
              obtain ⟨j, m, hj, hgj, hm, rfl, rfl, LT⟩ := hrel
              by_cases hjl : j < ln
              · have q6 : (j : Int) < (ln : Int) := by omega
                have hrd : RdG PE wr (.slice pad ln p.cap) p.l := by
                  have := HA.out.r.kept (LT.out.mono (Nat.le_of_eq HNw.out))
                  unfold Ac.v at this
                  rw [HLN.out, HPAD.out] at this
                  exact this
                obtain ⟨b2, off2, rfl, hlb5, hx⟩ := hrd.nth (by omega)
                have hlt2 : j < p.l.length := by rw [HLN.out]; exact hjl
                have hr : wr.rangeAt b2 (off2 + j * 3) (PC p.l[j]) := hx j hlt2
                obtain ⟨hk1, hv1⟩ := HSZ.out p.l[j] (List.getElem_mem hlt2)
                obtain ⟨z, HZ⟩ : ∃ z, Hid (p.l[j] = z) := ⟨p.l[j], (show p.l[j] = p.l[j] from rfl)⟩
                rw [HZ.out] at hr hk1 hv1
                obtain ⟨zk, HZK⟩ : ∃ x, Hid (z.1.size = x) := ⟨_, rfl⟩
                obtain ⟨zv, HZV⟩ : ∃ x, Hid (z.2.1.size = x) := ⟨_, rfl⟩
                rw [HZK.out] at hk1
                rw [HZV.out] at hv1
                have r1 := len_run z.1 zk HZK.out
                have r2 := len_run z.2.1 zv HZV.out
                obtain ⟨E2, HE2⟩ : ∃ E, Hid (wr.heap.size = E) := ⟨_, rfl⟩
                obtain ⟨w5, hw5⟩ : ∃ x, x = wr.alloc (.cells (PC z).toArray 51 (0, 0)) := ⟨_, rfl⟩
                obtain ⟨B5, G5⟩ := newB HE2 hw5
                have HW5 := hide hw5
                have L5 : Hid (Below N w w5) := (show Below _ _ _ from LT.out.trans (G5.out.mono (by have := LT.out.size; have := HNw.out; omega)))
                have d0 := B5.out.key
                have d1 := B5.out.val
                obtain ⟨m', HM⟩ : ∃ m' : Nat, Hid (m + (1 + (zk + zv) / 32) = m') := ⟨_, rfl⟩
                clear hx hlb5 hw5 hrd
                by_cases h3 : 300 < m'
                · have q7 : decide (300 < (m : Int) + (1 + ((zk : Int) + (zv : Int)) / 32)) = true := by simp; have := HM.out; omega
                  go_wp2_with (first
                    | (refine wpList_load_mid rfl 51 _ rfl b2 (off2 + j * 3) rfl (PC z) _ hr Tryz.underlying51 rfl Tryz.size51 ?_)
                    | (refine wpList_store_new rfl 51 _ _ rfl wr _ (PC z).toArray _ rfl rfl rfl Tryz.size51 rfl (all_one (PC_one z)) ?_; rw [← HW5.out, HE2.out])
                    | fail)
                  go_ret
                  first | exact ⟨false, rfl, fun h => (by cases h), L5.out⟩ | exact Or.inl ⟨rfl, L5.out⟩
                · have q7 : decide (300 < (m : Int) + (1 + ((zk : Int) + (zv : Int)) / 32)) = false := by simp; have := HM.out; omega
                  go_wp2_with (first
                    | (refine wpList_load_mid rfl 51 _ rfl b2 (off2 + j * 3) rfl (PC z) _ hr Tryz.underlying51 rfl Tryz.size51 ?_)
                    | (refine wpList_store_new rfl 51 _ _ rfl wr _ (PC z).toArray _ rfl rfl rfl Tryz.size51 rfl (all_one (PC_one z)) ?_; rw [← HW5.out, HE2.out])
                    | fail)
                  go_roundg (ln - j)
                  case measure => omega
                  case rel => exact ⟨j + 1, m', by omega, by omega, by omega, by go_num, by rw [← HM.out]; push_cast; rfl, L5⟩
              · obtain rfl : j = ln := by omega
                have hlt3 : ¬ (j : Int) < j := by omega
                go_wp2_with fail
                go_roundg (n - i)
                case measure => omega
                case rel => exact ⟨i + 1, m, by omega, by omega, hm, by go_num, rfl, (show ∀ q, q < i + 1 → _ from fun q hq a ha => by
                  by_cases e : q = i
                  · subst e
                    rw [List.getElem?_eq_getElem hlt', Option.some.injEq, HPp.out] at ha
                    subst ha
                    have e1 := HLN.out
                    have e2 := HKS.out
                    have e3 := HVS.out
                    exact ⟨by omega, by omega, by omega⟩
                  · exact HF.out q (by omega) a ha), LT⟩
      · obtain rfl : i = n := by omega
        have hlt3 : ¬ (i : Int) < i := by omega
        have hL : Light L := ⟨by rw [HN.out]; omega, fun a ha => by
          obtain ⟨q, hq, e⟩ := List.getElem_of_mem ha
          exact HF.out q (by rw [← HN.out]; exact hq) a (by rw [List.getElem?_eq_getElem hq, e])⟩
        have HLG := hide hL
        clear hL
        go_wp2_with fail
        go_ret
        first | exact ⟨true, rfl, fun _ => HLG.out, LR.out⟩ | exact Or.inr ⟨rfl, HLG.out, LR.out⟩ | exact Or.inr ⟨rfl, fun _ => HLG.out, LR.out⟩
end Go.Proofs.YtcicekggeampcaaGreat
