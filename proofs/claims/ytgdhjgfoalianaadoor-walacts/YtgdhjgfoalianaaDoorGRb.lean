/-
  Texts that ride together: RefB RefC RefK RefY RefW Region4.
-/
import Derived.Test.YtgdhjgfoalianaaDoorGRa
import Derived.Deep.DeepCutAuto
import Derived.Deep.RegionLaw
import Derived.Test.YtgdhjgfoalianaaDoorGDc
/-
  Bytes laid into a row; a copy in a region that draws its order.
-/
namespace Go.Proofs.YtgdhjgfoalianaaDoor
open Go.RowKit
open Pd (DM spl)
/-- Bytes laid into a row that is owned. -/
theorem own_blk {w : World} {v : Value} {l : List UInt8} (h : Own w 0 v l) (hl : 0 < l.length) : ∃ g cap cur, v = .slice (some ⟨g, 0, none⟩) l.length cap ∧ Blk w g 5 cur ∧ cur.length = cap ∧ l.length ≤ cap ∧ cap ≤ maxLen ∧ cur.take l.length = By l := by
  obtain ⟨h1, h2⟩ := h
  rcases h2 with ⟨rfl, hn⟩ | ⟨g, cap, cur, rfl, hg, hh, hnc, hcm, hcs, htk⟩
  · omega
  · refine ⟨g, cap, cur.toList, rfl, ?_, by simpa using hcs, hnc, hcm, by simpa using htk⟩
    show w.heap[g]? = _
    rw [hh]
theorem over_take {cur : List Value} {S X : List UInt8} {p : Nat} (h : cur.take S.length = By S) (hp : p + X.length ≤ S.length) : (over cur p (By X)).take S.length = By (spl S p X) := by
  have hlc : S.length ≤ cur.length := by have := congrArg List.length h; rw [List.length_take, By_length] at this; omega
  have e1 : cur.take p = By (S.take p) := by
    have := congrArg (List.take p) h
    rw [List.take_take, Nat.min_eq_left (by omega)] at this
    rw [this]; simp [By]
  have e2 : (cur.drop (p + X.length)).take (S.length - (p + X.length)) = By (S.drop (p + X.length)) := by
    rw [List.take_drop, show p + X.length + (S.length - (p + X.length)) = S.length by omega, h]
    simp [By]
  have hlen : (cur.take p ++ By X).length = p + X.length := by simp [By_length]; omega
  unfold over spl
  rw [List.take_append, hlen, List.take_of_length_le (by rw [hlen]; omega), By_length, e2, e1, By_append, By_append]
theorem own_laid {w : World} {g cap : Nat} {S X : List UInt8} {cur : List Value} {p : Nat} (hB : Blk w g 5 cur) (hc : cur.length = cap) (h1 : S.length ≤ cap) (h2 : cap ≤ maxLen) (ht : cur.take S.length = By S) (hp : p + X.length ≤ S.length) :
    Own (w.setCells g p (By X)) 0 (.slice (some ⟨g, 0, none⟩) S.length cap) (spl S p X) := by
  have hb := Blk.over (By X) hB p (by rw [By_length]; omega)
  have hl := Pd.spl_length hp
  refine ⟨by rw [By_length]; omega, .inr ⟨g, cap, (over cur p (By X)).toArray, by rw [hl], Nat.zero_le _, hb, by omega, h2, ?_, ?_⟩⟩
  · simp [over_length (show p + (By X).length ≤ cur.length by rw [By_length]; omega)]; omega
  · rw [hl, Nat.mul_one]
    exact over_take ht hp
theorem nodup_le : ∀ {k : Nat} {l : List Nat}, l.Nodup → (∀ x ∈ l, x < k) → l.length ≤ k
  | 0, l, _, h => by cases l with
    | nil => simp
    | cons x r => exact absurd (h x (by simp)) (by omega)
  | k + 1, l, hn, h => by
    have h1 := nodup_le (k := k) (l := l.erase k) (hn.erase k) (fun x hx => by
      have a := h x (List.mem_of_mem_erase hx)
      have b : x ≠ k := fun e => by subst e; exact (hn.not_mem_erase hx)
      omega)
    have h2 : l.length ≤ (l.erase k).length + 1 := by
      by_cases hk : k ∈ l
      · rw [List.length_erase_of_mem hk]; omega
      · rw [List.erase_of_not_mem hk]; omega
    omega
/-- A copy of bytes, as a step of a region that draws its order. -/
theorem step_copy_bytes {P : Program} {w : World} {ops : Array Oper} {o : Oper} {a : Act} {K : Act → World → Prop} {Q : Exit → Act → World → Prop} {E : Prop} (hgd : o.guard = none) (d s : Operand) (dT sT : TypeId)
    (ho : o.op = .call { callee := .builtin .copy, args := #[d, s], argTypes := #[dT, sT] }) (elem : TypeId) (hu : P.underlying dT = some (.slice elem)) (hsz : (P.info? elem).map (·.size) = some 1)
    (b off dLen dCap : Nat) (v : Value) (l : List UInt8) (hd : a.eval d = .slice (some ⟨b, off, none⟩) dLen dCap) (hs : a.eval s = v) (hr : Rd w v l) (X : List UInt8) (c : Nat) (hX : l.take dLen = X) (hXc : X.length = c)
    (T : TypeId) (cs : List Value) (hB : Blk w b T cs) (hfit : off + dLen ≤ cs.length)
    (h : K (a.put o.dst (goInt c)) (w.setCells b off (By X))) : if Region.wanted o (yielded ops a.tmps) = true then Oper.wp P o a w K Q else E := by
  have hw : Region.wanted o (yielded ops a.tmps) = true := by simp [Region.wanted, hgd]
  rw [if_pos hw]
  by_cases hc0 : 0 < c
  · exact wp_copy_bytes d s dT sT ho elem hu hsz b off dLen dCap v l hd hs hr X c hX hXc hc0 T cs hB hfit h
  · subst hX hXc
    have e : l.take dLen = [] := List.eq_nil_of_length_eq_zero (by omega)
    rw [e] at h
    obtain ⟨ad, cap, rfl, h1, h2, h3, h4⟩ := hr
    have h0 : Nat.min l.length dLen = 0 := by have := congrArg List.length e; rw [List.length_take, Nat.min_comm] at this; exact this
    have hrun := run_copy_none (P := P) w dT sT o.type elem (some ⟨b, off, none⟩) ad dLen dCap l.length cap hu hsz h0
    unfold Oper.wp
    simp [execOp, ho, resolve, invoke, builtin, hd, hs, hrun, Result.andThen]
    exact h
end Go.Proofs.YtgdhjgfoalianaaDoor

/-
  The reference's disk: Crash.
-/
namespace Go.Proofs.YtgdhjgfoalianaaDoor
open Go.RowKit
open Pd (DM spl)
theorem form_len {w : World} {B L : Nat} {v : Value} {S : List UInt8} (h : Own w B v ([] ++ S)) (hl : S.length = L) : ∃ a cap, v = .slice a L cap := by
  obtain ⟨a, cap, e⟩ := Own.form h
  exact ⟨a, cap, by rw [e, List.nil_append, hl]⟩
theorem RAt.safe_laid {w w' : World} {R : Nat} {vn vs vd vk : Value} {m : DM} {S : List UInt8} (h : RAt w R vn vs vd vk m) (hc : Chg (fun k => vs.ownBlock = some k) w w') (hs : Own w' 0 vs S) : RAt w' R vn vs vd vk { m with safe := S } := by
  obtain ⟨n1, n2, n3, n4⟩ := h.nR
  refine ⟨h.blk.chg hc (fun e => n2 R e rfl), ownB_chg h.now hc (fun b hb e => h.ns b hb e), hs, h.dirty.chg hc ?_, h.keep.chg hc ?_, h.kw, h.ns, h.dk, h.am⟩
  all_goals
    intro b hb e
    obtain ⟨cur, hh⟩ := OwnN.block (by first | exact h.dirty | exact h.keep) hb
    obtain ⟨_, h2⟩ := h.safe
    rcases h2 with ⟨rfl, _⟩ | ⟨g, cap, cur', rfl, hg, hh', r⟩
    · cases e
    · cases e
      rw [hh'] at hh
      simp at hh
set_option maxHeartbeats 4000000 in
set_option maxRecDepth 100000 in
theorem rcrash_at {w : World} {R n : Nat} {m : DM} {vn vs vd vk : Value} (hA : RAt w R vn vs vd vk m) (hO : Pd.Ok n m) (hn : 0 < n ∧ n ≤ 4096) (ho : m.off = false) (v : Value) (l : List Int) (t : Int) (hr : RdN w v l) (hv : ∀ b, InB v b → vs.ownBlock ≠ some b) :
    Calls Tryd.prog 19 #[.pointer (some ⟨R, 0, none⟩), v, .int .i64 t] w fun e w' => e = .returned (.bool true) ∧ ∃ vn', RAt w' R vn' vs (.slice none 0 0) vk (Pd.crash m l t) ∧ (∀ b, vn'.ownBlock = some b → w.heap.size ≤ b) ∧ Chg (fun k => k = R ∨ vs.ownBlock = some k) w w' := by
  have HA : Hid (RAt w R vn vs vd vk m) := hA
  have HO : Hid (Pd.Ok n m) := hO
  have HR : Hid (RdN w v l) := hr
  have HV : Hid (∀ b, InB v b → vs.ownBlock ≠ some b) := hv
  have c3 := hA.blk.cell (j := 3) rfl
  rw [ho] at c3
  have c2 := hA.blk.cell (j := 2) rfl
  obtain ⟨ad, cd, hvd, -⟩ := hA.dirty.rd
  rw [hvd] at c2
  clear hA hO hr hv
  obtain ⟨k, HK⟩ : ∃ k, Hid ((Nats m.dirty).length = k) := ⟨_, rfl⟩
  rw [HK.out] at c2 hvd
  have HVD : Hid (vd = .slice ad k cd) := hvd
  have HK4 : Hid (k ≤ 4096) := (show _ ≤ _ by
    have h1 := HO.out.nodup
    have h2 := HO.out.low
    have h3 : m.dirty.length ≤ n := nodup_le h1 h2
    have := HK.out
    rw [Nats_length] at this
    omega)
  have hk4 := HK4.out
  clear hvd
  go_enter Tryd.func19, Tryd.ntmps19
  go_upto_if 16 with fail
  go_cut [2] (fun s2 wx => wx = w ∧ ∃ u : Int, s2 = .int .i64 u ∧ Hid (0 ≤ u ∧ (0 ≤ t → u = t) ∧ (t < 0 → u = 0)))
  case first =>
    by_cases ht : t < 0
    · have q : decide (t < 0) = true := by simpa using ht
      go_wp2_with fail
      go_meet
      exact ⟨rfl, 0, rfl, (show _ from ⟨by omega, fun h => by omega, fun _ => rfl⟩)⟩
    · have q : decide (t < 0) = false := by simpa using ht
      go_wp2_with fail
      go_meet
      exact ⟨rfl, t, rfl, (show _ from ⟨by omega, fun _ => rfl, fun h => by omega⟩)⟩
  case rest =>
    obtain ⟨hwc, u, rfl, HU⟩ := hcut
    subst hwc
    go_upto_if 18 with fail
    go_cut [2] (fun s2 wx => wx = wc ∧ ∃ u' : Nat, s2 = .int .i64 (u' : Int) ∧ Hid (u' = Pd.clip t))
    case first =>
      obtain ⟨u1, u2, u3⟩ := HU.out
      by_cases ht : 32 < u
      · have q : decide (32 < u) = true := by simpa using ht
        have e : 32 = Pd.clip t := by unfold Pd.clip; rw [if_neg (by omega), if_pos (by omega)]
        go_wp2_with fail
        go_meet
        exact ⟨rfl, 32, rfl, e⟩
      · have q : decide (32 < u) = false := by simpa using ht
        have e : u = (Pd.clip t : Int) := by
          unfold Pd.clip
          by_cases h0 : t < 0
          · rw [if_pos h0, u3 h0]; rfl
          · rw [if_neg h0, if_neg (by omega), u2 (by omega)]; omega
        go_wp2_with fail
        go_meet
        exact ⟨rfl, Pd.clip t, by rw [← e], (show _ = _ from rfl)⟩
    case rest =>
      obtain ⟨hwc', u', rfl, HU'⟩ := hcut
      subst hwc'
      obtain ⟨W0, hW0⟩ : ∃ x, x = wc := ⟨_, rfl⟩
      subst hW0
      clear HU
      have HU32 : Hid (u' ≤ 32) := (show _ ≤ _ by rw [HU'.out]; exact Pd.clip_le t)
      go_wp2_with fail
      go_loopg [24, 7] k (fun g x y wr => ∃ (i : Nat) (f : Bool) (S : List UInt8), g + i = k ∧ x = .int .i64 (i : Int) ∧ y = .bool f ∧ Hid (RAt wr R vn vs vd vk { m with safe := S }) ∧ Hid (Chg (fun b => vs.ownBlock = some b) W0 wr) ∧ Hid (S.length = 32 * n) ∧ Hid (Pd.left m.now l u' (m.dirty.drop i) f S = Pd.left m.now l u' m.dirty true m.safe))
      case atStart => exact ⟨0, true, m.safe, by omega, rfl, rfl, HA.out, (show Chg _ _ _ from Chg.refl _ _), HO.out.safe, (show _ = _ from rfl)⟩
      case round =>
        obtain ⟨i, f, S, hgi, rfl, rfl, A1, C1, S1, E1⟩ := hrel
        by_cases hlt : i < k
        · have q2 : (i : Int) < (k : Int) := by omega
          have hil : i < m.dirty.length := by have := HK.out; rw [Nats_length] at this; omega
          obtain ⟨s, HS⟩ : ∃ s, Hid (m.dirty[i] = s) := ⟨m.dirty[i], (show m.dirty[i] = m.dirty[i] from rfl)⟩
          have HSn : Hid (s < n) := (show _ < _ by rw [← HS.out]; exact HO.out.low _ (List.getElem_mem hil))
          obtain ⟨bd, od, hadd, hcc⟩ : ∃ bd od, ad = some ⟨bd, od, none⟩ ∧ wr.cell? ⟨bd, od + i, none⟩ = some (.int .i64 (s : Int)) := by
            have hd := A1.out.dirty.rd
            rw [HVD.out] at hd
            obtain ⟨_, _, e1, -, -, -, h4⟩ := hd
            simp only [Value.slice.injEq] at e1
            obtain ⟨rfl, -, -⟩ := e1
            have hlen : (Nats m.dirty).length = k := HK.out
            obtain ⟨bd, od, e, -, hc⟩ := h4 (by show 0 < (Nats m.dirty).length; omega)
            refine ⟨bd, od, e, ?_⟩
            rw [hc i (by show i < (Nats m.dirty).length; omega)]
            simp only [Nats, List.getElem_map]
            rw [← HS.out]
          subst hadd
          have KR : Hid (RdN wr v l) := HR.out.chg C1.out (fun b hb => HV.out b hb)
          obtain ⟨hs, HM⟩ : ∃ x, Hid (decide ((s : Int) ∈ l) = x) := ⟨_, rfl⟩
          go_upto_if 31 with (first
            | (go_at_call 43; refine (has_any KR.out (s : Int)).mono ?_; rw [HM.out]; rintro e w1 ⟨rfl, hw1⟩; subst hw1)
            | fail)
          have HD : Hid (m.dirty.drop i = s :: m.dirty.drop (i + 1)) := (show _ = _ by rw [← HS.out]; exact (List.drop_eq_getElem_cons hil))
          go_cut [7, 10] (fun s7 s10 wx => wx = w1 ∧ ∃ (f' : Bool) (N : Nat), s7 = .bool f' ∧ s10 = .int .i64 (N : Int) ∧ Hid (N ≤ 32) ∧ Hid (Pd.left m.now l u' (m.dirty.drop (i + 1)) f' (Pd.lay m.now S s N) = Pd.left m.now l u' m.dirty true m.safe))
          case first =>
            have e2 := E1.out
            rw [HD.out, Pd.left] at e2
            have hm := HM.out
            cases hs with
            | true =>
              rw [if_pos (by simpa using hm)] at e2
              have HE2 : Hid (_ = Pd.left m.now l u' m.dirty true m.safe) := e2
              clear e2 hm
              go_wp2_with fail
              go_meet
              exact ⟨rfl, f, 32, rfl, rfl, (show _ from Nat.le_refl _), HE2⟩
            | false =>
              rw [if_neg (by simpa using hm)] at e2
              have HE2 : Hid (_ = Pd.left m.now l u' m.dirty true m.safe) := e2
              clear e2 hm
              cases f with
              | true =>
                go_wp2_with fail
                go_meet
                exact ⟨rfl, false, u', rfl, rfl, HU32, HE2⟩
              | false =>
                go_wp2_with fail
                go_meet
                exact ⟨rfl, false, 0, rfl, rfl, (show _ from Nat.zero_le _), HE2⟩
          case rest =>
            obtain ⟨hwd, f', N, rfl, rfl, HN32, HE2⟩ := hcut
            subst hwd
            obtain ⟨w1, hw1⟩ : ∃ x, x = wc := ⟨_, rfl⟩
            subst hw1
            clear E1 HD hcc KR
            obtain ⟨L, HL⟩ : ∃ L, Hid (32 * n = L) := ⟨_, rfl⟩
            have hLl : L ≤ 131072 := by have := HL.out; omega
            have hnl : m.now.length = L := HO.out.now.trans HL.out
            have hsl : S.length = L := S1.out.trans HL.out
            obtain ⟨gn, cpn, hvn, hcn⟩ := Own.some A1.out.now (by show 0 < m.now.length; have := HL.out; omega)
            obtain ⟨gs, cps, cur, hvs, HBs, hcl, hcs, hcm, htk⟩ := own_blk A1.out.safe (by show 0 < S.length; have := HL.out; omega)
            rw [show ({ m with safe := S } : DM).now.length = L from hnl] at hvn hcn
            rw [show ({ m with safe := S } : DM).safe.length = L from hsl] at hvs hcs
            have c0 := A1.out.blk.cell (j := 0) rfl
            have c1 := A1.out.blk.cell (j := 1) rfl
            rw [hvn] at c0
            rw [hvs] at c1
            obtain ⟨p, HP⟩ : ∃ p, Hid (32 * s = p) := ⟨_, rfl⟩
            obtain ⟨q, HQ⟩ : ∃ q, Hid (p + N = q) := ⟨_, rfl⟩
            have hps : p + 32 ≤ L := by have := HP.out; have := HSn.out; have := HL.out; omega
            have hN := HN32.out
            have hq : q ≤ L := by have := HQ.out; omega
            have hpq : p ≤ q := by have := HQ.out; omega
            have f2 : IntKind.i64.wrap ((s : Int) * 32) = (p : Int) := (wr64 (by have := HP.out; omega) (by have := HP.out; omega)).trans (by have := HP.out; omega)
            have f3 : IntKind.i64.wrap ((p : Int) + (N : Int)) = (q : Int) := (wr64 (by omega) (by omega)).trans (by have := HQ.out; omega)
            have hs1 := slice_mid gs L cps p q hpq (by omega) (by omega)
            have hs2 := slice_mid gn L cpn p q hpq (by omega) (by omega)
            obtain ⟨X, HX⟩ : ∃ X, Hid ((m.now.drop p).take (q - p) = X) := ⟨_, rfl⟩
            have HXl : Hid (X.length = q - p) := (show _ = _ by rw [← HX.out]; simp; omega)
            have RX : Hid (Rd w1 (.slice (some ⟨gn, p, none⟩) (q - p) (cpn - p)) X) := (show Rd _ _ _ by
              have r0 : Rd w1 vn m.now := A1.out.now.rd
              rw [hvn] at r0
              have d1 := r0.drop p (by omega) p (.inl (by omega))
              have := d1.take (q - p) (by omega)
              rw [HX.out] at this
              exact this)
            have HXt : Hid (X.take (q - p) = X) := (show _ = _ by rw [List.take_of_length_le (by rw [HXl.out]; omega)])
            have HB1 : Hid (Blk w1 gs 5 cur) := HBs
            have hcf : p + (q - p) ≤ cur.length := by omega
            have HTK : Hid (cur.take S.length = By S) := htk
            have HVN : Hid (vn = _) := hvn
            have HVS : Hid (vs = _) := hvs
            have HOX : Hid (Own ((w1.drew).setCells gs p (By X)) 0 (.slice (some ⟨gs, 0, none⟩) L cps) (spl S p X)) := (show Own _ _ _ _ by
              have := own_laid (w := w1.drew) (S := S) (X := X) (p := p) HBs hcl (by rw [hsl]; exact hcs) hcm htk (by have := HXl.out; omega)
              rw [hsl] at this
              exact this)
            have HLAY : Hid (Pd.lay m.now S s N = spl S p X) := (show _ = _ by
              have h1 := HP.out
              have h2 := HQ.out
              rw [Pd.lay, h1, ← HX.out, show q - p = N by omega])
            obtain ⟨w2, HW2⟩ : ∃ x, Hid ((w1.drew).setCells gs p (By X) = x) := ⟨_, rfl⟩
            rw [HW2.out] at HOX
            rw [HLAY.out] at HE2
            have C12 : Hid (Chg (fun b => vs.ownBlock = some b) w1 w2) := (show Chg _ _ _ by
              rw [← HW2.out, hvs]
              exact (Chg.drew _ w1).trans (Chg.setCells (F := fun b => some gs = some b) _ rfl p _))
            have A2 : Hid (RAt w2 R vn vs vd vk { m with safe := spl S p X }) := A1.out.safe_laid C12.out (by rw [hvs]; exact HOX.out)
            have C2 : Hid (Chg (fun b => vs.ownBlock = some b) W0 w2) := C1.out.trans C12.out
            have S2 : Hid ((spl S p X).length = 32 * n) := (show _ = _ by rw [Pd.spl_length (by have := HXl.out; omega)]; exact S1.out)
            clear HBs htk hvn hvs
            go_upto_region 17 with fail
            go_region_law (refine step_copy_bytes rfl (.tmp 44) (.tmp 55) 33 33 rfl 5 Tryd.underlying33 Tryd.size5 gs p (q - p) (cps - p) (.slice (some ⟨gn, p, none⟩) (q - p) (cpn - p)) X (by simp [Act.eval, Act.put]) (by simp [Act.eval, Act.put]) RX.out X (q - p) HXt.out HXl.out 5 cur HB1.out hcf ?_)
            all_goals
              rw [HW2.out]
              clear hs1 hs2 f2 f3
              go_wp2_with fail
              go_roundg (k - (i + 1))
              case measure => omega
              case rel => exact ⟨i + 1, f', spl S p X, by omega, by go_num, rfl, A2, C2, S2, HE2⟩
        · obtain rfl : i = k := by omega
          have HSE : Hid (S = Pd.left m.now l (Pd.clip t) m.dirty true m.safe) := (show _ = _ by
            have h1 := E1.out
            have h2 := HK.out
            rw [Nats_length] at h2
            rw [List.drop_eq_nil_of_le (by omega), Pd.left, HU'.out] at h1
            exact h1)
          obtain ⟨L, HL⟩ : ∃ L, Hid (32 * n = L) := ⟨_, rfl⟩
          have hLl : L ≤ 131072 := by have := HL.out; omega
          have hsl : S.length = L := S1.out.trans HL.out
          obtain ⟨gs, cps, hvs, hcs⟩ := Own.some A1.out.safe (by show 0 < S.length; have := HL.out; omega)
          rw [show ({ m with safe := S } : DM).safe.length = L from hsl] at hvs hcs
          obtain ⟨w1, hw1⟩ : ∃ x, x = wr := ⟨_, rfl⟩
          subst hw1
          have c1 := A1.out.blk.cell (j := 1) rfl
          have c1' := (A1.out.blk.alloc (.cells #[] 5 (0, 0))).cell (j := 1) rfl
          rw [hvs] at c1 c1'
          have HRS : Hid (Rd (w1.alloc (.cells #[] 5 (0, 0))) (.slice (some ⟨gs, 0, none⟩) L cps) S) := (show Rd _ _ _ by
            have r0 : Rd w1 vs S := A1.out.safe.rd
            rw [hvs] at r0
            exact r0.kept ((Below.refl _ _).alloc (Nat.le_refl _) _))
          obtain ⟨i0, hi0, hz0, hz1, hz2⟩ := info_parts Tryd.info5
          have HVS : Hid (vs = _) := hvs
          clear hvs E1
          go_upto_region 20 with (first
            | (at_builtin; refine wpList_append_bytes _ rfl _ _ 33 33 rfl w1.heap.size i0 Tryd.underlying33 hi0 hz0 hz1 hz2 _ [] rfl (own_none w1 _ (Nat.le_refl _)) _ S rfl (HRS.out.src 33 Tryd.underlying33) (by simp; omega) (by simp) ?_; intro v1 w3 ho1 hb1; have HO1 : Hid (Own w3 w1.heap.size v1 ([] ++ S)) := ho1; have HB3 : Hid (Below w1.heap.size w1 w3) := (show Below _ _ _ from ((Below.refl _ _).alloc (Nat.le_refl _) _).trans hb1); have hB3 := A1.out.blk.kept HB3.out; have d0 := hB3.cell (j := 0) rfl; have z0 := hB3.frozen 0; clear ho1 hb1 hB3; obtain ⟨a1, cp1, hv1⟩ := form_len HO1.out hsl; subst hv1)
            | fail)
          obtain ⟨w4, hw4⟩ : ∃ x, x = w3.setCell ⟨R, 0, none⟩ (.slice a1 L cp1) := ⟨_, rfl⟩
          rw [← hw4]
          have HB4 : Hid (Blk w4 R 73 (RC (.slice a1 L cp1) vs vd m.off (m.armed : Int) vk m.torn)) := (show Blk _ _ _ _ by
            have := (A1.out.blk.kept HB3.out).set 0 (.slice a1 L cp1)
            rw [hw4]
            exact this)
          have C4 : Hid (Chg (fun b => b = R) w1 w4) := (show Chg _ _ _ by rw [hw4]; exact (Chg.of_below HB3.out).trans (Chg.setCell (F := fun b => b = R) _ rfl 0 _))
          have O4 : Hid (Own w4 0 (.slice a1 L cp1) S) := (show Own _ _ _ _ by
            have h1 : Own w3 0 (.slice a1 L cp1) S := Own.mono HO1.out (Nat.zero_le _)
            rw [hw4]
            exact ownB_chg h1 (Chg.setCell (F := fun b => b = R) _ rfl 0 _) (fun b hb e => by
              have h2 := (World.ownsRow.lt HO1.out b hb).1
              have h3 := A1.out.blk.lt
              omega))
          have HNB : Hid (∀ b, (Value.slice a1 L cp1).ownBlock = some b → w1.heap.size ≤ b) := fun b hb => (World.ownsRow.lt HO1.out b hb).1
          have e2 := HB4.out.cell (j := 2) rfl
          have e3 := HB4.out.cell (j := 3) rfl
          have e4 := HB4.out.cell (j := 4) rfl
          have y2 := HB4.out.frozen 2
          have y3 := HB4.out.frozen 3
          have y4 := HB4.out.frozen 4
          clear hw4 d0 z0 c1 c1' HO1
          go_wp2
          go_ret
          obtain ⟨w5, hw5⟩ : ∃ x, x = ((w4.setCell ⟨R, 2, none⟩ (.slice none 0 0)).setCell ⟨R, 3, none⟩ (.bool true)).setCell ⟨R, 4, none⟩ (.int .i64 0) := ⟨_, rfl⟩
          rw [← hw5]
          have C5 : Chg (fun b => b = R) w4 w5 := by rw [hw5]; exact ((Chg.setCell (F := fun b => b = R) w4 rfl 2 _).trans (Chg.setCell (F := fun b => b = R) _ rfl 3 _)).trans (Chg.setCell (F := fun b => b = R) _ rfl 4 _)
          have B5 : Blk w5 R 73 (RC (.slice a1 L cp1) vs (.slice none 0 0) true 0 vk m.torn) := by
            have := ((HB4.out.set 2 (.slice none 0 0)).set 3 (.bool true)).set 4 (.int .i64 0)
            rw [← hw5] at this
            exact this
          have C15 : Chg (fun b => b = R) w1 w5 := C4.out.trans C5
          obtain ⟨n1, n2, n3, n4⟩ := A1.out.nR
          have hsz : W0.heap.size ≤ w1.heap.size := C1.out.size
          refine ⟨rfl, .slice a1 L cp1, ?_, fun b hb => Nat.le_trans hsz (HNB.out b hb), ?_⟩
          · have hE : Pd.crash m l t = { m with now := S, safe := S, dirty := [], off := true, armed := 0 } := by unfold Pd.crash; rw [← HSE.out]
            rw [hE]
            refine ⟨B5, ownB_chg O4.out C5 (fun b hb e => by have h2 := HNB.out b hb; have h3 := A1.out.blk.lt; omega), ownB_chg A1.out.safe C15 n2, OwnN_nil _, A1.out.keep.chg C15 n4, A1.out.kw, fun b hb hb' => ?_, fun b hb => (by cases hb), Nat.zero_le _⟩
            have h2 := HNB.out b hb
            have h3 := ownB_lt A1.out.safe hb'
            omega
          · exact (C1.out.mono (fun b _ e => Or.inr e)).trans (C15.mono (fun b _ e => Or.inl e))
end Go.Proofs.YtgdhjgfoalianaaDoor

/-
  The reference's disk: Crash by its colour; strikes.
-/
namespace Go.Proofs.YtgdhjgfoalianaaDoor
open Go.RowKit
open Pd (DM spl)
theorem Step.then {c c1 c2 : Nat → Nat} {i : Nat} {w w1 w2 : World} (h : Step c i w c1 w1) (k : Step c1 i w1 c2 w2) : Step c i w c2 w2 :=
  ⟨h.chg.then k.chg (fun b hb e => by rw [h.ext b hb] at e; exact e), fun b hb => (k.ext b (Nat.lt_of_lt_of_le hb h.size)).trans (h.ext b hb), k.norm⟩
set_option maxHeartbeats 2000000 in
set_option maxRecDepth 100000 in
theorem rcrash_off {w : World} {R : Nat} {m : DM} {vn vs vd vk : Value} (hA : RAt w R vn vs vd vk m) (ho : m.off = true) (v : Value) (t : Int) :
    Calls Tryd.prog 19 #[.pointer (some ⟨R, 0, none⟩), v, .int .i64 t] w fun e w' => e = .returned (.bool false) ∧ w' = w := by
  have c3 := hA.blk.cell (j := 3) rfl
  rw [ho] at c3
  clear hA
  go_enter Tryd.func19, Tryd.ntmps19
  go_wp2
  go_ret
  exact ⟨rfl, rfl⟩
theorem Ok.armed {n : Nat} {m : DM} (h : Pd.Ok n m) (a : Nat) : Pd.Ok n { m with armed := a } := ⟨h.now, h.safe, h.nodup, h.low, h.alike⟩
/-- A disk that loses its power, by what it may write. -/
theorem rcrash_col {w w0 : World} {c : Nat → Nat} {i R n : Nat} {m : DM} {vn vs vd vk : Value} (hA : RAt w R vn vs vd vk m) (hO : Pd.Ok n m) (hn : 0 < n ∧ n ≤ 4096) (ho : m.off = false) (v : Value) (l : List Int) (t : Int) (hr : RdN w v l) (hv : ∀ b, InB v b → vs.ownBlock ≠ some b)
    (hs : Chg (fun k => c k = i) w0 w) (h1 : R < w0.heap.size → c R = i) (h3 : ∀ b, vs.ownBlock = some b → b < w0.heap.size → c b = i) (h5 : ∀ b, vk.ownBlock = some b → b < w0.heap.size → c b = i) (hi : i ≠ 0) :
    Calls Tryd.prog 19 #[.pointer (some ⟨R, 0, none⟩), v, .int .i64 t] w fun e w' => e = .returned (.bool true) ∧ ∃ c', IsR w' c' i R n (Pd.crash m l t) ∧ Step c i w0 c' w' := by
  refine (rcrash_at hA hO hn ho v l t hr hv).mono ?_
  rintro e w' ⟨rfl, vn', hA', hnew, hc⟩
  have hC : Chg (fun k => c k = i) w0 w' := hs.then hc (fun b hb e => by
    rcases e with e | e
    · rw [e]; rw [e] at hb; exact h1 hb
    · exact h3 b e hb)
  exact ⟨rfl, _, IsR.of_at hC hA' (hO.crash l t) ⟨fun _ => rfl, hn⟩ h1 (fun b hb hlt => absurd (Nat.lt_of_lt_of_le hlt hs.size) (by have := hnew b hb; omega)) h3 (fun b hb => by cases hb) h5 hi⟩
theorem rCrash_any {w : World} {c : Nat → Nat} {i R n : Nat} {m : DM} (h : IsR w c i R n m) (hN : Norm c w) (v : Value) (l : List Int) (t : Int) (hr : RdN w v l) (hv : Cool c v) :
    Calls Tryd.prog 19 #[.pointer (some ⟨R, 0, none⟩), v, .int .i64 t] w fun e w' => e = .returned (.bool (Pd.crashed m l t).1) ∧ ∃ c', IsR w' c' i R n (Pd.crashed m l t).2 ∧ Step c i w c' w' := by
  have hI := h
  obtain ⟨vn, vs, vd, vk, hA, hO, hn, h1, h2, h3, h4, h5, h6⟩ := h
  cases ho : m.off with
  | true =>
    have e1 : Pd.crashed m l t = (false, m) := by unfold Pd.crashed; rw [if_pos ho]
    rw [e1]
    refine (rcrash_off hA ho v t).mono ?_
    rintro e w' ⟨rfl, hw⟩
    subst hw
    exact ⟨rfl, c, hI, Chg.refl _ _, fun _ _ => rfl, hN⟩
  | false =>
    have e1 : Pd.crashed m l t = (true, Pd.crash m l t) := by unfold Pd.crashed; rw [if_neg (by rw [ho]; simp)]
    rw [e1]
    exact rcrash_col hA hO hn.2 ho v l t hr (fun b hb e => h6 ((h3 b e).symm.trans (hv b hb))) (Chg.refl _ _) (fun _ => h1) (fun b hb _ => h3 b hb) (fun b hb _ => h5 b hb) h6
set_option maxHeartbeats 2000000 in
set_option maxRecDepth 100000 in
theorem rstrikes_any {w : World} {c : Nat → Nat} {i R n : Nat} {m : DM} (h : IsR w c i R n m) (hN : Norm c w) (ho : m.off = false) :
    Calls Tryd.prog 50 #[.pointer (some ⟨R, 0, none⟩)] w fun e w' => e = .returned (.bool (Pd.strike m).1) ∧ ∃ c', IsR w' c' i R n (Pd.strike m).2 ∧ Step c i w c' w' := by
  have H : Hid (IsR w c i R n m) := h
  have HN : Hid (Norm c w) := hN
  obtain ⟨vn, vs, vd, vk, hA, hO, hn, h1, h2, h3, h4, h5, h6⟩ := h
  have HA : Hid (RAt w R vn vs vd vk m) := hA
  have HO : Hid (Pd.Ok n m) := hO
  have c4 := hA.blk.cell (j := 4) rfl
  have z4 := hA.blk.frozen 4
  have ham := hA.am
  clear hA hO
  obtain ⟨a, HAa⟩ : ∃ a, Hid (m.armed = a) := ⟨_, rfl⟩
  rw [HAa.out] at c4 ham
  go_enter Tryd.func50, Tryd.ntmps50
  by_cases h0 : a = 0
  · subst h0
    have HE : Hid (Pd.strike m = (false, m)) := (show _ = _ by unfold Pd.strike; rw [if_pos HAa.out])
    go_wp2
    go_ret
    rw [HE.out]
    exact ⟨rfl, c, H.out, Chg.refl _ _, fun _ _ => rfl, HN.out⟩
  · have q1 : decide ((a : Int) < 1) = false := by simp; omega
    obtain ⟨b, HB⟩ : ∃ b, Hid (a = b + 1) := ⟨a - 1, (show _ = _ by omega)⟩
    have w1 : IntKind.i64.wrap ((a : Int) - 1) = (b : Int) := (wr64 (by omega) (by omega)).trans (by have := HB.out; omega)
    obtain ⟨W, hW⟩ : ∃ x, x = w.setCell ⟨R, 4, none⟩ (.int .i64 (b : Int)) := ⟨_, rfl⟩
    have HU : Hid (Chg (fun k => k = R) w W) := (show Chg _ _ _ by rw [hW]; exact Chg.setCell (F := fun k => k = R) w rfl 4 _)
    have HR : Hid (RAt W R vn vs vd vk { m with armed := b }) := (show RAt _ _ _ _ _ _ _ by
      have hB : Blk W R 73 (RC vn vs vd m.off (b : Int) vk m.torn) := by
        have := HA.out.blk.set 4 (.int .i64 (b : Int))
        rw [← hW] at this
        exact this
      obtain ⟨n1, n2, n3, n4⟩ := HA.out.nR
      exact ⟨hB, ownB_chg HA.out.now HU.out n1, ownB_chg HA.out.safe HU.out n2, HA.out.dirty.chg HU.out n3, HA.out.keep.chg HU.out n4, HA.out.kw, HA.out.ns, HA.out.dk, by have := HB.out; show b ≤ _; omega⟩)
    go_upto_region 4 with fail
    rw [← hW]
    have d4 := HR.out.blk.cell (j := 4) rfl
    have d5 := HR.out.blk.cell (j := 5) rfl
    have d6 := HR.out.blk.cell (j := 6) rfl
    obtain ⟨ak, ck, hvk, -⟩ := HR.out.keep.rd
    subst hvk
    clear hW c4 z4 w1
    by_cases hb : b = 0
    · subst hb
      have HE : Hid (Pd.strike m = (true, Pd.crash m m.keep m.torn)) := (show _ = _ by
        have h8 := HAa.out
        have h9 := HB.out
        unfold Pd.strike
        rw [if_neg (by omega), if_pos (by omega)])
      have HRd : RAt W.drew R vn vs vd (.slice ak m.keep.length ck) { m with armed := 0 } := HR.out.chg (F := fun _ => False) (Chg.drew _ W) id (fun _ _ => id) (fun _ _ => id) (fun _ _ => id) (fun _ _ => id)
      have HC : Hid _ := rcrash_col (w0 := w) (c := c) (i := i) HRd (Ok.armed HO.out 0) hn.2 ho _ m.keep m.torn HRd.keep.rd (fun x hx e => ?_) ((HU.out.mono (fun k _ e => by rw [e]; exact h1)).trans (Chg.drew _ W)) (fun _ => h1) (fun x hx _ => h3 x hx) (fun x hx _ => h5 x hx) h6
      · clear HRd
        go_upto_region 6 with fail
        go_region_with (go_at_call 19; refine Calls.mono HC.out ?_; rintro e w2 ⟨rfl, hw2⟩; have HW2 : Hid (∃ c', IsR w2 c' i R n (Pd.crash m m.keep m.torn) ∧ Step c i w c' w2) := hw2; clear hw2)
        all_goals
          go_wp2
          go_ret
          rw [HE.out]
          exact ⟨rfl, HW2.out⟩
      · obtain ⟨off, k', cp', e', hk'⟩ := hx
        cases e'
        obtain ⟨cur, hh⟩ := HR.out.keep.block (b := x) rfl
        obtain ⟨_, h2'⟩ := HR.out.safe
        rcases h2' with ⟨rfl, _⟩ | ⟨g, cap, cur', rfl, hg, hh', r⟩
        · cases e
        · cases e
          rw [hh'] at hh
          simp at hh
    · have HE : Hid (Pd.strike m = (false, { m with armed := b })) := (show _ = _ by
        have h8 := HAa.out
        have h9 := HB.out
        unfold Pd.strike
        rw [if_neg (by omega), if_neg (by omega), show m.armed - 1 = b by omega])
      have q3 : decide (0 < (b : Int)) = true := by simp; omega
      go_wp2
      go_ret
      rw [HE.out]
      exact ⟨rfl, _, IsR.of_at (HU.out.mono (fun k _ e => by rw [e]; exact h1)) HR.out (Ok.armed HO.out b) hn (fun _ => h1) (fun x hx _ => h2 x hx) (fun x hx _ => h3 x hx) (fun x hx _ => h4 x hx) (fun x hx _ => h5 x hx) h6⟩
end Go.Proofs.YtgdhjgfoalianaaDoor

/-
  The reference's disk: Sync.
-/
namespace Go.Proofs.YtgdhjgfoalianaaDoor
open Go.RowKit
open Pd (DM spl)
theorem strike_on {m : DM} {e : DM} (h : Pd.strike m = (false, e)) : e.off = m.off ∧ e.now = m.now ∧ e.dirty = m.dirty := by
  unfold Pd.strike at h
  split at h
  · cases h; exact ⟨rfl, rfl, rfl⟩
  · split at h
    · cases h
    · cases h; exact ⟨rfl, rfl, rfl⟩
set_option maxHeartbeats 2000000 in
set_option maxRecDepth 100000 in
theorem rSync_any {w : World} {c : Nat → Nat} {i R n : Nat} {m : DM} (h : IsR w c i R n m) (hN : Norm c w) :
    Calls Tryd.prog 40 #[.pointer (some ⟨R, 0, none⟩)] w fun e w' => e = .returned (.int .i64 ((Pd.sync m).1 : Int)) ∧ ∃ c', IsR w' c' i R n (Pd.sync m).2 ∧ Step c i w c' w' := by
  have H : Hid (IsR w c i R n m) := h
  have HN : Hid (Norm c w) := hN
  obtain ⟨vn, vs, vd, vk, hA, hO, hn, h1, h2, h3, h4, h5, h6⟩ := h
  have HA : Hid (RAt w R vn vs vd vk m) := hA
  have c2 := hA.blk.cell (j := 2) rfl
  have c3 := hA.blk.cell (j := 3) rfl
  obtain ⟨ad, cd, hvd, -⟩ := hA.dirty.rd
  subst hvd
  clear hA hO hN
  obtain ⟨k, HK⟩ : ∃ k, Hid ((Nats m.dirty).length = k) := ⟨_, rfl⟩
  rw [HK.out] at c2 HA h4
  go_enter Tryd.func40, Tryd.ntmps40
  cases ho : m.off with
  | true =>
    rw [ho] at c3
    have HE : Hid (Pd.sync m = (7, m)) := (show _ = _ by unfold Pd.sync; rw [if_pos ho])
    go_wp2
    go_ret
    rw [HE.out]
    exact ⟨rfl, c, H.out, Chg.refl _ _, fun _ _ => rfl, HN.out⟩
  | false =>
    rw [ho] at c3
    by_cases hk : k = 0
    · subst hk
      have hd : m.dirty = [] := by have := HK.out; rw [Nats_length] at this; exact List.eq_nil_of_length_eq_zero this
      have HE : Hid (Pd.sync m = (0, m)) := (show _ = _ by unfold Pd.sync; rw [if_neg (by rw [ho]; simp), if_pos hd])
      clear hd
      go_wp2
      go_ret
      rw [HE.out]
      exact ⟨rfl, c, H.out, Chg.refl _ _, fun _ _ => rfl, HN.out⟩
    · have HD : Hid (m.dirty ≠ []) := (show _ ≠ _ from fun e => hk (by have := HK.out; rw [e] at this; exact this.symm))
      cases hst : Pd.strike m with
      | mk b e =>
        have HST : Hid (Pd.strike m = (b, e)) := hst
        have HC : Hid _ := rstrikes_any H.out HN.out ho
        rw [hst] at HC
        clear hst
        cases b with
        | true =>
          have HE : Hid (Pd.sync m = (7, e)) := (show _ = _ by unfold Pd.sync; rw [if_neg (by rw [ho]; simp), if_neg HD.out, HST.out])
          go_wp2_with (first
            | (go_at_call 50; refine Calls.mono HC.out ?_; rintro e w2 ⟨rfl, hw2⟩; have HW2 : Hid _ := hw2; clear hw2)
            | fail)
          go_ret
          rw [HE.out]
          exact ⟨rfl, HW2.out⟩
        | false =>
          have HE : Hid (Pd.sync m = (0, { e with safe := e.now, dirty := [] })) := (show _ = _ by unfold Pd.sync; rw [if_neg (by rw [ho]; simp), if_neg HD.out, HST.out])
          go_upto_region 7 with (first
            | (go_at_call 50; refine Calls.mono HC.out ?_; rintro e' w2 ⟨rfl, c2', hI2, hs2⟩; have HI2 : Hid (IsR w2 c2' i R n e) := hI2; have HS2 : Hid (Step c i w c2' w2) := hs2; clear hI2 hs2)
            | fail)
          obtain ⟨xn, xs, xd, xk, hA, hO, hn', g1, g2, g3, g4, g5, -⟩ := HI2.out
          have A1 : Hid (RAt w2 R xn xs xd xk e) := hA
          have HO2 : Hid (Pd.Ok n e) := hO
          obtain ⟨L, HL⟩ : ∃ L, Hid (32 * n = L) := ⟨_, rfl⟩
          have hLl : L ≤ 131072 := by have := HL.out; have := hn'.2.2; omega
          have hsl : e.now.length = L := hO.now.trans HL.out
          obtain ⟨gn, cpn, hxn, hcn⟩ := Own.some hA.now (by have := HL.out; have := hn'.2.1; omega)
          rw [hsl] at hxn hcn
          have c0 := (hA.blk.alloc (.cells #[] 5 (0, 0))).cell (j := 0) rfl
          rw [hxn] at c0
          have HRS : Hid (Rd (w2.alloc (.cells #[] 5 (0, 0))) (.slice (some ⟨gn, 0, none⟩) L cpn) e.now) := (show Rd _ _ _ by
            have r0 : Rd w2 xn e.now := hA.now.rd
            rw [hxn] at r0
            exact r0.kept ((Below.refl _ _).alloc (Nat.le_refl _) _))
          obtain ⟨i0, hi0, hz0, hz1, hz2⟩ := info_parts Tryd.info5
          clear hxn hA hO c2 c3
          obtain ⟨S, HSe⟩ : ∃ S, Hid (e.now = S) := ⟨_, rfl⟩
          rw [HSe.out] at hsl HRS
          go_upto_region 8 with (first
            | (at_builtin; refine wpList_append_bytes _ rfl _ _ 33 33 rfl w2.heap.size i0 Tryd.underlying33 hi0 hz0 hz1 hz2 _ [] rfl (own_none w2 _ (Nat.le_refl _)) _ S rfl (HRS.out.src 33 Tryd.underlying33) (by simp; omega) (by simp) ?_; intro v1 w3 ho1 hb1; have HO1 : Hid (Own w3 w2.heap.size v1 ([] ++ S)) := ho1; have HB3 : Hid (Below w2.heap.size w2 w3) := (show Below _ _ _ from ((Below.refl _ _).alloc (Nat.le_refl _) _).trans hb1); have hB3 := A1.out.blk.kept HB3.out; have d1 := hB3.cell (j := 1) rfl; have z1 := hB3.frozen 1; clear ho1 hb1 hB3; obtain ⟨a1, cp1, hv1⟩ := form_len HO1.out hsl; subst hv1)
            | fail)
          obtain ⟨w4, hw4⟩ : ∃ x, x = w3.setCell ⟨R, 1, none⟩ (.slice a1 L cp1) := ⟨_, rfl⟩
          rw [← hw4]
          have HB4 : Hid (Blk w4 R 73 (RC xn (.slice a1 L cp1) xd e.off (e.armed : Int) xk e.torn)) := (show Blk _ _ _ _ by
            have := (A1.out.blk.kept HB3.out).set 1 (.slice a1 L cp1)
            rw [hw4]
            exact this)
          have C4 : Hid (Chg (fun b => b = R) w2 w4) := (show Chg _ _ _ by rw [hw4]; exact (Chg.of_below HB3.out).trans (Chg.setCell (F := fun b => b = R) _ rfl 1 _))
          have O4 : Hid (Own w4 0 (.slice a1 L cp1) S) := (show Own _ _ _ _ by
            have h1 : Own w3 0 (.slice a1 L cp1) S := Own.mono HO1.out (Nat.zero_le _)
            rw [hw4]
            exact ownB_chg h1 (Chg.setCell (F := fun b => b = R) _ rfl 1 _) (fun b hb e => by
              have h2 := (World.ownsRow.lt HO1.out b hb).1
              have h3 := A1.out.blk.lt
              omega))
          have HNB : Hid (∀ b, (Value.slice a1 L cp1).ownBlock = some b → w2.heap.size ≤ b) := fun b hb => (World.ownsRow.lt HO1.out b hb).1
          have e2 := HB4.out.cell (j := 2) rfl
          have y2 := HB4.out.frozen 2
          clear hw4 d1 z1 c0 HO1
          go_wp2
          go_ret
          obtain ⟨w5, hw5⟩ : ∃ x, x = w4.setCell ⟨R, 2, none⟩ (.slice none 0 0) := ⟨_, rfl⟩
          rw [← hw5]
          have C5 : Chg (fun b => b = R) w4 w5 := by rw [hw5]; exact Chg.setCell (F := fun b => b = R) w4 rfl 2 _
          have B5 : Blk w5 R 73 (RC xn (.slice a1 L cp1) (.slice none 0 0) e.off (e.armed : Int) xk e.torn) := by
            have := HB4.out.set 2 (.slice none 0 0)
            rw [← hw5] at this
            exact this
          have C25 : Chg (fun b => b = R) w2 w5 := C4.out.trans C5
          obtain ⟨n1, n2, n3, n4⟩ := A1.out.nR
          have hok := H.out
          obtain ⟨_, _, _, _, _, hOm, _⟩ := hok
          have hO' : Pd.Ok n (Pd.sync m).2 := hOm.sync
          rw [HE.out] at hO' ⊢
          obtain ⟨k1, k2⟩ := IsR.of_at (c := c2') (i := i) (C25.mono (fun b _ e => by rw [e]; exact g1)) (m := { e with safe := e.now, dirty := [] })
            ⟨B5, ownB_chg A1.out.now C25 n1, by rw [HSe.out]; exact ownB_chg O4.out C5 (fun b hb e => by have h2 := HNB.out b hb; have h3 := A1.out.blk.lt; omega), OwnN_nil _, A1.out.keep.chg C25 n4, A1.out.kw, fun b hb hb' => by have h2 := HNB.out b hb'; have h3 := ownB_lt A1.out.now hb; omega, fun b hb => (by cases hb), A1.out.am⟩
            hO' ⟨fun _ => rfl, hn'.2⟩ (fun _ => g1) (fun b hb _ => g2 b hb) (fun b hb hlt => absurd (HNB.out b hb) (by omega)) (fun b hb => by cases hb) (fun b hb _ => g5 b hb) h6
          exact ⟨rfl, _, k1, HS2.out.then k2⟩
end Go.Proofs.YtgdhjgfoalianaaDoor

/-
  The reference's disk: Write.
-/
namespace Go.Proofs.YtgdhjgfoalianaaDoor
open Go.RowKit
open Pd (DM spl)
/-- What j bytes of a write leave. -/
def wrt (e : DM) (p : Nat) (b : List UInt8) (j : Nat) : DM := { e with now := spl e.now p (b.take j), dirty := Pd.touch e.dirty p j }
theorem wrt_ok {n : Nat} {e : DM} (hk : Pd.Ok n e) {p : Nat} {b : List UInt8} (hp : p + b.length ≤ e.now.length) {j : Nat} (hj : j ≤ b.length) : Pd.Ok n (wrt e p b j) := by
  have hl : (b.take j).length = j := by simp; omega
  have hfit : p + (b.take j).length ≤ e.now.length := by omega
  refine ⟨(Pd.spl_length hfit).trans hk.now, hk.safe, Pd.touch_nodup hk.nodup _, fun s hs => ?_, fun x hx => ?_⟩
  · rcases Pd.mem_touch.1 hs with hs | ⟨y, hy, rfl⟩
    · exact hk.low s hs
    · have hen : e.now.length = 32 * n := hk.now
      omega
  · have hnt : x / 32 ∉ e.dirty ∧ ¬ (p ≤ x ∧ x < p + j) := by
      refine ⟨fun hm => hx (Pd.mem_touch.2 (.inl hm)), fun hm => hx (Pd.mem_touch.2 (.inr ⟨x - p, by omega, by congr 1; omega⟩))⟩
    show (spl e.now p (b.take j))[x]? = e.safe[x]?
    rw [Pd.spl_get hfit, hl, if_neg hnt.2]
    exact hk.alike x hnt.1
theorem write_eq {m e : DM} {sb : Bool} {p : Int} {b : List UInt8} {k : Nat} (ho : m.off = false) (q1 : ¬ p < 0) (q2 : ¬ ((m.now.length : Int) < p ∨ (m.now.length : Int) - p < b.length)) (hb : b ≠ []) (hk : b.length = k) (hst : Pd.strike m = (sb, e)) :
    Pd.write m p b = if sb then (7, e) else (0, wrt e p.toNat b k) := by
  unfold Pd.write
  rw [if_neg (by rw [ho]; simp), if_neg q1, if_neg q2, if_neg hb, hst]
  cases sb with
  | true => rfl
  | false =>
    show (0, _) = (0, wrt e p.toNat b k)
    unfold wrt
    rw [List.take_of_length_le (by omega), hk]
theorem own_set {w : World} {g cap q : Nat} {l : List UInt8} {cur : List Value} (x : UInt8) (hB : Blk w g 5 cur) (hc : cur.length = cap) (h1 : l.length ≤ cap) (h2 : cap ≤ maxLen) (ht : cur.take l.length = By l) :
    Own (w.setCell ⟨g, q, none⟩ (.int .u8 (x.toNat : Int))) 0 (.slice (some ⟨g, 0, none⟩) l.length cap) (l.set q x) := by
  have hb := hB.set q (.int .u8 (x.toNat : Int))
  refine ⟨by rw [By_length]; omega, .inr ⟨g, cap, (cur.set q (.int .u8 (x.toNat : Int))).toArray, by rw [List.length_set], Nat.zero_le _, hb, by rw [List.length_set]; omega, h2, by simp; omega, ?_⟩⟩
  rw [List.length_set, Nat.mul_one, ← By_set, ← ht]
  simp only [List.take_set]
theorem RAt.now_laid {w w' : World} {R : Nat} {vn vs vd vk : Value} {m : DM} {S : List UInt8} (h : RAt w R vn vs vd vk m) (hc : Chg (fun k => vn.ownBlock = some k) w w') (hs : Own w' 0 vn S) : RAt w' R vn vs vd vk { m with now := S } := by
  obtain ⟨n1, n2, n3, n4⟩ := h.nR
  refine ⟨h.blk.chg hc (fun e => n1 R e rfl), hs, ownB_chg h.safe hc (fun b hb e => h.ns b e hb), h.dirty.chg hc ?_, h.keep.chg hc ?_, h.kw, h.ns, h.dk, h.am⟩
  all_goals
    intro b hb e
    obtain ⟨cur, hh⟩ := OwnN.block (by first | exact h.dirty | exact h.keep) hb
    obtain ⟨_, h2⟩ := h.now
    rcases h2 with ⟨rfl, _⟩ | ⟨g, cap, cur', rfl, hg, hh', r⟩
    · cases e
    · cases e
      rw [hh'] at hh
      simp at hh
theorem own_apart {w : World} {v u : Value} {l : List UInt8} {k : List Int} (h : Own w 0 v l) (h' : OwnN w u k) (b : Nat) (hb : v.ownBlock = some b) (hb' : u.ownBlock = some b) : False := by
  obtain ⟨cur, hh⟩ := h'.block hb'
  obtain ⟨_, h2⟩ := h
  rcases h2 with ⟨rfl, _⟩ | ⟨g, cap, cur', rfl, hg, hh', r⟩
  · cases hb
  · cases hb
    rw [hh'] at hh
    simp at hh
/-- One sector more among those that are dirty. -/
theorem RAt.more {w wa w5 : World} {R : Nat} {vn vs vd vk v5 : Value} {m : DM} (s : Nat) (h : RAt w R vn vs vd vk m) (hU : Chg (fun y => vd.ownBlock = some y) w wa) (ho : OwnN wa v5 (Nats (m.dirty ++ [s]))) (hl : ∀ y, v5.ownBlock = some y → vd.ownBlock = some y ∨ w.heap.size ≤ y) (h5 : w5 = wa.setCell ⟨R, 2, none⟩ v5) :
    RAt w5 R vn vs v5 vk { m with dirty := m.dirty ++ [s] } ∧ Chg (fun y => vd.ownBlock = some y ∨ y = R) w w5 := by
  obtain ⟨n1, n2, n3, n4⟩ := h.nR
  have hB : Chg (fun y => y = R) wa w5 := by rw [h5]; exact Chg.setCell (F := fun y => y = R) wa rfl 2 v5
  refine ⟨⟨?_, (ownB_chg h.now hU (own_apart h.now h.dirty)) |> fun x => ownB_chg x hB n1, (ownB_chg h.safe hU (own_apart h.safe h.dirty)) |> fun x => ownB_chg x hB n2, OwnN.chg (w := wa) ho hB (fun y hy e => ?_), (h.keep.chg hU (fun y hy e => h.dk y e hy)).chg hB n4, h.kw, h.ns, fun y hy hk => ?_, h.am⟩, (hU.mono (fun _ _ e => Or.inl e)).trans (hB.mono (fun _ _ e => Or.inr e))⟩
  · have := (h.blk.chg hU (fun e => n3 R e rfl)).set 2 v5
    rw [← h5] at this
    exact this
  · rcases hl y hy with e' | e'
    · exact n3 y e' e
    · have := h.blk.lt
      omega
  · rcases hl y hy with e' | e'
    · exact h.dk y e' hk
    · have := own_lt h.keep hk
      omega
set_option maxHeartbeats 4000000 in
set_option maxRecDepth 100000 in
theorem rWrite_any {w : World} {c : Nat → Nat} {i R n : Nat} {m : DM} (h : IsR w c i R n m) (hN : Norm c w) (p : Int) (hpw : (Lit.int .i64 p).wf = true) (v : Value) (b : List UInt8) (hr : Rd w v b) (hv : Cool c v) (hb : b.length ≤ 1000000) :
    Calls Tryd.prog 25 #[.pointer (some ⟨R, 0, none⟩), .int .i64 p, v] w fun e w' => e = .returned (.int .i64 ((Pd.write m p b).1 : Int)) ∧ ∃ c', IsR w' c' i R n (Pd.write m p b).2 ∧ Step c i w c' w' := by
  have H : Hid (IsR w c i R n m) := h
  have HN : Hid (Norm c w) := hN
  have HR : Hid (Rd w v b) := hr
  have HV : Hid (Cool c v) := hv
  obtain ⟨vn, vs, vd, vk, hA, hO, hn, -, -, -, -, -, h6⟩ := h
  have bp := bounds_i64 hpw
  have c0 := hA.blk.cell (j := 0) rfl
  have c3 := hA.blk.cell (j := 3) rfl
  obtain ⟨L, HL⟩ : ∃ L, Hid (32 * n = L) := ⟨_, rfl⟩
  have hLl : L ≤ 131072 := by have := HL.out; have := hn.2.2; omega
  have hsl : m.now.length = L := hO.now.trans HL.out
  obtain ⟨gn, cpn, hvn, hcn⟩ := Own.some hA.now (by have := HL.out; have := hn.2.1; omega)
  rw [hsl] at hvn hcn
  rw [hvn] at c0
  have HSL : Hid (m.now.length = L) := hsl
  obtain ⟨k, HK⟩ : ∃ k, Hid (b.length = k) := ⟨_, rfl⟩
  rw [HK.out] at hb
  obtain ⟨a, cp, hvv, -⟩ := hr
  rw [HK.out] at hvv
  subst hvv
  clear hA hO hN hv hvn hsl
  have none : ∀ {x : Nat × DM}, x.2 = m → ∃ c', IsR w c' i R n x.2 ∧ Step c i w c' w := fun e => by rw [e]; exact ⟨c, H.out, Chg.refl _ _, fun _ _ => rfl, HN.out⟩
  have NO : Hid (∀ {x : Nat × DM}, x.2 = m → ∃ c', IsR w c' i R n x.2 ∧ Step c i w c' w) := none
  clear none
  go_enter Tryd.func25, Tryd.ntmps25
  cases ho : m.off with
  | true =>
    rw [ho] at c3
    have HE : Hid (Pd.write m p b = (7, m)) := (show _ = _ by unfold Pd.write; rw [if_pos ho])
    go_wp2
    go_ret
    exact ⟨by rw [HE.out]; rfl, NO.out (by rw [HE.out])⟩
  | false =>
    rw [ho] at c3
    by_cases q1 : p < 0
    · have HE : Hid (Pd.write m p b = (2, m)) := (show _ = _ by unfold Pd.write; rw [if_neg (by rw [ho]; simp), if_pos q1])
      have q1' : decide (p < 0) = true := by simpa using q1
      go_wp2
      go_ret
      exact ⟨by rw [HE.out]; rfl, NO.out (by rw [HE.out])⟩
    have q1' : decide (p < 0) = false := by simpa using q1
    by_cases q2 : (L : Int) < p
    · have HE : Hid (Pd.write m p b = (6, m)) := (show _ = _ by unfold Pd.write; rw [if_neg (by rw [ho]; simp), if_neg q1, HSL.out, if_pos (.inl q2)])
      have q2' : decide ((L : Int) < p) = true := by simpa using q2
      go_wp2
      go_ret
      exact ⟨by rw [HE.out]; rfl, NO.out (by rw [HE.out])⟩
    have q2' : decide ((L : Int) < p) = false := by simpa using q2
    have w4 : IntKind.i64.wrap ((L : Int) - p) = (L : Int) - p := wr64 (by omega) (by omega)
    by_cases q3 : (L : Int) - p < k
    · have HE : Hid (Pd.write m p b = (6, m)) := (show _ = _ by unfold Pd.write; rw [if_neg (by rw [ho]; simp), if_neg q1, HSL.out, HK.out, if_pos (.inr q3)])
      have q3' : decide ((L : Int) - p < k) = true := by simpa using q3
      go_wp2
      go_ret
      exact ⟨by rw [HE.out]; rfl, NO.out (by rw [HE.out])⟩
    have q3' : decide ((L : Int) - p < k) = false := by simpa using q3
    by_cases q5 : k = 0
    · have HE : Hid (Pd.write m p b = (0, m)) := (show _ = _ by unfold Pd.write; rw [if_neg (by rw [ho]; simp), if_neg q1, HSL.out, HK.out, if_neg (by omega), if_pos (List.eq_nil_of_length_eq_zero (HK.out.trans q5))])
      subst q5
      go_wp2
      go_ret
      exact ⟨by rw [HE.out]; rfl, NO.out (by rw [HE.out])⟩
    have q5' : ((k : Int) == 0) = false := by simpa using q5
    cases hst : Pd.strike m with
    | mk sb e =>
      have HE0 : Hid (Pd.write m p b = if sb then (7, e) else (0, wrt e p.toNat b k)) := (show _ = _ by
        have hk0 := HK.out
        exact write_eq ho q1 (by rw [HSL.out, hk0]; omega) (fun e => q5 (by rw [e] at hk0; exact hk0.symm)) hk0 hst)
      have HST : Hid (Pd.strike m = (sb, e)) := hst
      have HC : Hid _ := rstrikes_any H.out HN.out ho
      rw [hst] at HC
      clear hst
      cases sb with
      | true =>
        go_wp2_with (first
          | (go_at_call 50; refine Calls.mono HC.out ?_; rintro e w2 ⟨rfl, hw2⟩; have HW2 : Hid _ := hw2; clear hw2)
          | fail)
        go_ret
        rw [HE0.out]
        exact ⟨rfl, HW2.out⟩
      | false =>
        go_wp2_with (first
          | (go_at_call 50; refine Calls.mono HC.out ?_; rintro e' w2 ⟨rfl, c2', hI2, hs2⟩; have HI2 : Hid (IsR w2 c2' i R n e) := hI2; have HS2 : Hid (Step c i w c2' w2) := hs2; clear hI2 hs2)
          | fail)
        obtain ⟨P, rfl⟩ : ∃ P : Nat, p = (P : Int) := ⟨p.toNat, by omega⟩
        have hPk : P + k ≤ L := by omega
        have HNE : Hid (e.now.length = L) := (show _ = _ by rw [(strike_on HST.out).2.1]; exact HSL.out)
        have HE1 : Hid (Pd.write m (P : Int) b = (0, wrt e P b k)) := (show _ = _ by rw [HE0.out]; rfl)
        clear HC q1 q1' q2 q2' q3 q3' w4 q5' c0 c3 HE0
        go_loopg [47] k (fun g x wr => ∃ (j : Nat) (cj : Nat → Nat), g + j = k ∧ x = .int .i64 (j : Int) ∧ Hid (IsR wr cj i R n (wrt e P b j)) ∧ Hid (Step c i w cj wr))
        case atStart => exact ⟨0, c2', by omega, rfl, (show IsR _ _ _ _ _ _ by rw [show wrt e P b 0 = e by unfold wrt; rw [List.take_zero, Pd.spl_nil]; rfl]; exact HI2.out), HS2⟩
        case round =>
          obtain ⟨j, cj, hgj, rfl, I1, S1⟩ := hrel
          by_cases hlt : j < k
          · have q7 : (j : Int) < (k : Int) := by omega
            have hjb : j < b.length := by rw [HK.out]; exact hlt
            obtain ⟨x, HX⟩ : ∃ x, Hid (b[j] = x) := ⟨b[j], (show b[j] = b[j] from rfl)⟩
            obtain ⟨bb, ob, hadd, hcc⟩ : ∃ bb ob, a = some ⟨bb, ob, none⟩ ∧ wr.cell? ⟨bb, ob + j, none⟩ = some (.int .u8 (x.toNat : Int)) := by
              have r1 : Rd wr (.slice a k cp) b := HR.out.chg S1.out.chg (fun y hy e => h6 (e.symm.trans (HV.out y hy)))
              obtain ⟨_, _, e1, -, -, -, h4⟩ := r1
              simp only [Value.slice.injEq] at e1
              obtain ⟨rfl, -, -⟩ := e1
              obtain ⟨bb, ob, e, -, hc⟩ := h4 (by omega)
              exact ⟨bb, ob, e, by rw [hc j _ (By_get hjb), HX.out]⟩
            subst hadd
            obtain ⟨xn, xs, xd, xk, hA, hO, hn', g1, g2, g3, g4, g5, -⟩ := I1.out
            have A1 : Hid (RAt wr R xn xs xd xk (wrt e P b j)) := hA
            have HO1 : Hid (Pd.Ok n (wrt e P b j)) := hO
            have hnl : (wrt e P b j).now.length = L := hO.now.trans HL.out
            obtain ⟨gw, cpw, cur, hxn, HBs, hcl, hcw, hcm, htk⟩ := own_blk hA.now (by rw [hnl]; have := HL.out; have := hn.2.1; omega)
            rw [hnl] at hxn hcw htk
            have d0 := hA.blk.cell (j := 0) rfl
            rw [hxn] at d0
            obtain ⟨q, HQ⟩ : ∃ q, Hid (P + j = q) := ⟨_, rfl⟩
            have hqL : q < L := by have := HQ.out; omega
            have f1 : IntKind.i64.wrap ((P : Int) + (j : Int)) = (q : Int) := (wr64 (by omega) (by omega)).trans (by have := HQ.out; omega)
            have hqc : q < cur.length := by omega
            have dq : wr.cell? ⟨gw, q, none⟩ = some (cur[q]'hqc) := HBs.cell (List.getElem?_eq_getElem hqc)
            have zq := HBs.frozen q
            obtain ⟨w3, hw3⟩ : ∃ y, y = wr.setCell ⟨gw, q, none⟩ (.int .u8 (x.toNat : Int)) := ⟨_, rfl⟩
            have HSP : Hid ((spl e.now P (b.take j)).set q x = spl e.now P (b.take (j + 1))) := (show _ = _ by
              have h7 : (b.take j).length = j := by rw [List.length_take]; omega
              have := Pd.spl_snoc (l := e.now) (b := b.take j) (p := P) x (by rw [h7, HNE.out]; omega)
              rw [h7, HQ.out] at this
              rw [this, ← HX.out, List.take_succ_eq_append_getElem hjb])
            have C3 : Hid (Chg (fun y => xn.ownBlock = some y) wr w3) := (show Chg _ _ _ by
              rw [hw3, hxn]
              exact Chg.setCell (F := fun y => some gw = some y) _ rfl q _)
            obtain ⟨T, HT⟩ : ∃ T, Hid (Pd.touch e.dirty P j = T) := ⟨_, rfl⟩
            have A3 : Hid (RAt w3 R xn xs xd xk { e with now := spl e.now P (b.take (j + 1)), dirty := T }) := (show RAt _ _ _ _ _ _ _ by
              have h7 := own_set (q := q) x HBs hcl (l := spl e.now P (b.take j)) (by show (wrt e P b j).now.length ≤ _; rw [hnl]; exact hcw) hcm (by show cur.take (wrt e P b j).now.length = _; rw [hnl]; exact htk)
              rw [HSP.out, show (spl e.now P (b.take j)).length = L from hnl, ← hw3] at h7
              have := A1.out.now_laid C3.out (by rw [hxn]; exact h7)
              unfold wrt at this
              rw [HT.out] at this
              exact this)
            obtain ⟨s, HS⟩ : ∃ s, Hid (q / 32 = s) := ⟨_, rfl⟩
            have f2 : (q : Int) / 32 = (s : Int) := by have := HS.out; omega
            obtain ⟨ad, cd, hxd, -⟩ := A3.out.dirty.rd
            obtain ⟨kd, HKD⟩ : ∃ kd, Hid ((Nats T).length = kd) := ⟨_, rfl⟩
            have hxd' : xd = .slice ad kd cd := by rw [hxd]; show Value.slice ad (Nats T).length cd = _; rw [HKD.out]
            have hkd : kd ≤ 4096 := by
              have h1 := HO1.out.nodup
              have h2 := HO1.out.low
              have h3 : (wrt e P b j).dirty.length ≤ n := nodup_le h1 h2
              have h4 := HKD.out
              rw [Nats_length, ← HT.out] at h4
              have h5 : (Pd.touch e.dirty P j).length ≤ n := h3
              have := hn.2.2
              omega
            subst hxd'
            clear hxd
            have e2 := A3.out.blk.cell (j := 2) rfl
            have RD : Hid (RdN w3 (.slice ad kd cd) (Nats T)) := A3.out.dirty.rd
            have HTS : Hid (Pd.touch e.dirty P (j + 1) = Pd.adds T s) := (show _ = _ by rw [Pd.touch, HT.out, HQ.out, HS.out])
            obtain ⟨bs, HBM⟩ : ∃ y, Hid (decide ((s : Int) ∈ Nats T) = y) := ⟨_, rfl⟩
            have HMem : Hid (decide (s ∈ T) = bs) := (show _ = _ by
              rw [← HBM.out]
              congr 1
              simp only [Nats, List.mem_map]
              exact propext ⟨fun h => ⟨s, h, rfl⟩, fun ⟨y, h, e⟩ => by rwa [show y = s by omega] at h⟩)
            have HXN : Hid (xn = .slice (some ⟨gw, 0, none⟩) L cpw) := hxn
            clear hA hO htk HBs hxn
            go_upto_region 15 with fail
            rw [← hw3]
            clear hw3 d0 dq zq hcc
            go_upto_region 16 with fail
            go_upto_if 71 with (first
              | (go_at_call 43; refine (has_any RD.out (s : Int)).mono ?_; rw [HBM.out]; rintro e w4 ⟨rfl, hw4⟩; subst hw4)
              | fail)
            have HWN : Hid (wrt e P b (j + 1) = { e with now := spl e.now P (b.take (j + 1)), dirty := Pd.adds T s }) := (show _ = _ by unfold wrt; rw [HTS.out])
            have HO4 : Hid (Pd.Ok n (wrt e P b (j + 1))) := (show Pd.Ok _ _ by
              obtain ⟨_, _, _, _, _, hOe, _⟩ := HI2.out
              exact wrt_ok hOe (by rw [HNE.out, HK.out]; omega) (by omega))
            have HDK : Hid (Pd.Dark (wrt e P b (j + 1)) ∧ 0 < n ∧ n ≤ 4096) := (show _ from ⟨fun h => absurd (show e.off = true from h) (by rw [(strike_on HST.out).1, ho]; simp), hn.2⟩)
            have HLT : Hid ((Nats T).length = kd) := HKD
            cases bs with
            | true =>
              have hin : s ∈ T := by simpa using HMem.out
              have HI : Hid (IsR w4 (paint cj wr w4 i) i R n (wrt e P b (j + 1)) ∧ Step cj i wr (paint cj wr w4 i) w4) := (show _ ∧ _ by
                refine IsR.of_at (C3.out.mono (fun y _ e => g2 y e)) ?_ HO4.out HDK.out (fun _ => g1) (fun y hy _ => g2 y hy) (fun y hy _ => g3 y hy) (fun y hy _ => g4 y hy) (fun y hy _ => g5 y hy) h6
                rw [HWN.out, Pd.adds, if_pos hin]
                exact A3.out)
              have HI' : Hid (IsR w4 (paint cj wr w4 i) i R n (wrt e P b (j + 1))) := HI.out.1
              have HS' : Hid (Step c i w (paint cj wr w4 i) w4) := S1.out.then HI.out.2
              clear hin f1 f2 e2
              go_wp2_with fail
              go_roundg (k - (j + 1))
              case measure => omega
              case rel => exact ⟨j + 1, _, by omega, by go_num, HI', HS'⟩
            | false =>
              have hin : s ∉ T := by simpa using HMem.out
              have HIN : Hid (s ∉ T) := hin
              obtain ⟨i0, hi0, hz0, hz1, hz2⟩ := info_parts Tryd.info3
              have HOD : Hid (OwnN w4 (.slice ad kd cd) (Nats T)) := A3.out.dirty
              have e2' := (A3.out.blk.alloc (.cells #[.int .i64 (s : Int)] 3 (0, 0))).cell (j := 2) rfl
              clear hin f1 f2
              go_upto_region 18 with (first
                | (at_builtin; refine wpList_append_own_at _ rfl _ _ 34 rfl 0 3 i0 (.int .i64 0) 1 8 Tryd.underlying34 hi0 hz0 hz1 hz2 rfl (by decide) (.slice ad kd cd) (Nats T).length (Ni (Nats T)) rfl (HOD.out.chg (F := fun _ => False) (Chg.alloc _ _ _) (fun _ _ => id)) ⟨w4.heap.size, 0, none⟩ 1 1 [.int .i64 (s : Int)] rfl rfl (cell_one_new _ _ _) (Ni_one [(s : Int)]) (by rw [HLT.out]; unfold maxLen; omega) (by rw [HLT.out]; omega) (by simp) ?_; intro v5 wa ho5 hg5 hn5 hl5; clear hn5; have HO5 : Hid _ := ho5; have HG5 : Hid _ := hg5; have HL5 : Hid _ := hl5; have da := A3.out.blk.chg ((Chg.alloc (fun y => (Value.slice ad kd cd).ownBlock = some y) w4 _).trans (Chg.of_grown hg5 (fun k e _ => e))) (fun e => A3.out.nR.2.2.1 R e rfl); have ca := da.cell (j := 2) rfl; have za := da.frozen 2; have hv5 := slice_of_owns ho5; clear ho5 hg5 hl5 da; obtain ⟨gx5, cp5, he5⟩ := hv5; rw [he5])
                | fail)
              rw [← he5]
              obtain ⟨w5, hw5⟩ : ∃ y, y = wa.setCell ⟨R, 2, none⟩ v5 := ⟨_, rfl⟩
              rw [← hw5]
              have UA : Hid (Chg (fun y => (Value.slice ad kd cd).ownBlock = some y) w4 wa) := (Chg.alloc (fun y => (Value.slice ad kd cd).ownBlock = some y) w4 _).trans (Chg.of_grown HG5.out (fun k e _ => e))
              have HM5 : Hid (RAt w5 R xn xs v5 xk { e with now := spl e.now P (b.take (j + 1)), dirty := T ++ [s] } ∧ Chg (fun y => (Value.slice ad kd cd).ownBlock = some y ∨ y = R) w4 w5) := (show _ ∧ _ by
                refine A3.out.more s UA.out ?_ (fun y hy => ?_) hw5
                · have := HO5.out
                  unfold OwnN
                  show wa.ownsRow 0 3 1 v5 (Nats (T ++ [s])).length (Ni (Nats (T ++ [s])))
                  rw [show Nats (T ++ [s]) = Nats T ++ [(s : Int)] by simp [Nats], Ni_append, List.length_append]
                  exact this
                · rcases HL5.out with e | e
                  · exact .inl (e ▸ hy)
                  · rw [e] at hy
                    cases hy
                    refine .inr ?_
                    simp)
              have HI : Hid (IsR w5 (paint cj wr w5 i) i R n (wrt e P b (j + 1)) ∧ Step cj i wr (paint cj wr w5 i) w5) := (show _ ∧ _ by
                refine IsR.of_at ((C3.out.mono (fun y _ e => g2 y e)).then HM5.out.2 (fun y _ e => e.elim (g4 y) (fun e => by rw [e]; exact g1))) (vn := xn) (vs := xs) (vd := v5) (vk := xk) ?_ HO4.out HDK.out (fun _ => g1) (fun y hy _ => g2 y hy) (fun y hy _ => g3 y hy) (fun y hy hlt => ?_) (fun y hy _ => g5 y hy) h6
                · rw [HWN.out, Pd.adds, if_neg HIN.out]
                  exact HM5.out.1
                · rcases HL5.out with e | e
                  · exact g4 y (e ▸ hy)
                  · rw [e] at hy
                    cases hy
                    have := C3.out.size
                    simp at hlt
                    omega)
              have HI' : Hid (IsR w5 (paint cj wr w5 i) i R n (wrt e P b (j + 1))) := HI.out.1
              have HS' : Hid (Step c i w (paint cj wr w5 i) w5) := S1.out.then HI.out.2
              clear hw5 ca za e2 e2' he5 HO5 HG5 HL5
              go_wp2_with fail
              go_roundg (k - (j + 1))
              case measure => omega
              case rel => exact ⟨j + 1, _, by omega, by go_num, HI', HS'⟩
          · obtain rfl : j = k := by omega
            go_wp2
            go_ret
            rw [HE1.out]
            exact ⟨rfl, cj, I1.out, S1.out⟩
end Go.Proofs.YtgdhjgfoalianaaDoor

/-
  A region that draws its order, two of whose operations write, one behind the other, and whose last one waits for all.
-/
namespace Go.Proofs.YtgdhjgfoalianaaDoor
open Go.RowKit
/-- Does operation y wait for x? -/
def afterB (ops : Array Oper) (y x : Nat) : Bool := match ops[y]? with
  | some o => o.after.any fun e => Region.binds .any e && e.on == x
  | none => false
structure TJ (ops : Array Oper) (V : Nat → Value) (T : Bool → Bool → World → Prop) (k1 k2 z : Nat) (a0 : Act) (l : Nat → Bool) (a : Act) (w : World) : Prop where
  vals : ∀ (i : Nat) (o : Oper) (d : Nat), ops[i]? = some o → l i = true → o.dst = some d → a.eval (.tmp d) = V i
  kept : l z = false → KeptZ ops z a0 a
  all : l z = true → ∀ j, j < ops.size → l j = true
  ord : l k2 = true → l k1 = true
  st : T (l k1) (l k2) w
theorem wp_region_two {P : Program} {id : Nat} {ops : Array Oper} {Q : Exit → Act → World → Prop} {a0 : Act} {w : World} (hm : P.follows .mixedOrders = true) (V : Nat → Value) (T : Bool → Bool → World → Prop) (k1 k2 z : Nat)
    (n : Nat) (hn : a0.tmps.size = n) (hf : formB ops n = true) (hz : allB ops z = true) (h21 : afterB ops k2 k1 = true) (hne : k1 ≠ k2) (h0 : ∀ w', w'.heap = w.heap → Gr w w' → T false false w')
    (hstep : AllFrom (fun i o => o.guard = none ∧ (i ≠ k1 → i ≠ k2 → ∀ x y a w', KeptZ ops z a0 a → Finds ops V o a → T x y w' → (execOp a.eval o).run P w' = .ok (.value (V i)) w') ∧
      (i = k1 → ∀ a w', KeptZ ops z a0 a → Finds ops V o a → T false false w' → o.wp P a w' (fun a' w'' => a' = a.put o.dst (V i) ∧ T true false w'') Q) ∧
      (i = k2 → ∀ a w', KeptZ ops z a0 a → Finds ops V o a → T true false w' → o.wp P a w' (fun a' w'' => a' = a.put o.dst (V i) ∧ T true true w'') Q)) 0 ops.toList)
    (hQ : ∀ a w', a.tmps.size = a0.tmps.size → a.defers = a0.defers → Kept ops a0 a → (∀ (i : Nat) (o : Oper) (d : Nat), ops[i]? = some o → o.dst = some d → a.eval (.tmp d) = V i) → T true true w' → Q .normal a w')
    (hk1 : k1 < ops.size) (hk2 : k2 < ops.size) : (Code.region id ops true).wp P Q a0 w := by
  have hzw : ∀ (o : Oper) (l : Nat → Bool), ops[z]? = some o → waitsB o l = true → ∀ j, j < ops.size → j ≠ z → l j = true := by
    intro o l ho hw j hj hne
    unfold allB at hz
    rw [ho] at hz
    have := List.all_eq_true.1 hz j (by simpa using hj)
    simp only [Bool.or_eq_true, beq_iff_eq] at this
    rcases this with h | h
    · exact absurd h hne
    · exact waitsB_at hw j h
  refine wp_region_J hm (TJ ops V T k1 k2 z a0) n hn hf ?_ ?_ ?_
  · intro w' hh hg
    exact ⟨fun i o d _ h => by simp at h, fun _ t _ => rfl, fun h => by simp at h, fun h => by simp at h, h0 w' hh hg⟩
  · intro i o ho l a w1 hJ ht hd hkp hli hw
    have hs := AllFrom.at hstep (i := i) (o := o) (by simpa using ho)
    rw [Nat.zero_add] at hs
    have hi : i < ops.size := (Array.getElem?_eq_some_iff.1 ho).1
    have hlz : l z = false := by
      cases h : l z with
      | false => rfl
      | true => rw [hJ.all h i hi] at hli; cases hli
    have hfinds : Finds ops V o a := by
      intro j d hb
      unfold depB at hb
      rw [Bool.and_eq_true] at hb
      have hlj := waitsB_at hw j hb.1
      cases hoj : ops[j]? with
      | none => rw [hoj] at hb; simp at hb
      | some oj =>
        rw [hoj] at hb
        exact hJ.vals j oj d hoj hlj (by simpa using hb.2)
    have next : ∀ w2, ((l k2 || k2 == i) = true → (l k1 || k1 == i) = true) → T (l k1 || k1 == i) (l k2 || k2 == i) w2 → TJ ops V T k1 k2 z a0 (fun j => l j || j == i) (a.put o.dst (V i)) w2 := by
      intro w2 hO hT
      refine ⟨fun j oj d hoj hl hdj => ?_, fun h t hft => ?_, fun h j hj => ?_, hO, hT⟩
      · by_cases hji : j = i
        · subst hji
          rw [ho] at hoj
          simp only [Option.some.injEq] at hoj
          subst hoj
          rw [hdj, eval_put_same (by rw [ht]; exact ((formB_spec hf ho).2 d hdj).1)]
        · rw [eval_put_other (fun e => hji (formB_ne hf hoj ho hdj e))]
          exact hJ.vals j oj d hoj (by simpa [hji] using hl) hdj
      · simp only [Bool.or_eq_false_iff, beq_eq_false_iff_ne] at h
        have hne : o.dst ≠ some t := by
          unfold freeZ at hft
          have := List.all_eq_true.1 hft i (by simpa using hi)
          rw [ho] at this
          simp only [Bool.or_eq_true, beq_iff_eq, bne_iff_ne] at this
          rcases this with h' | h'
          · exact absurd h'.symm h.2
          · exact h'
        rw [eval_put_other hne]
        exact hJ.kept hlz t hft
      · by_cases hji : j = i
        · simp [hji]
        · have hzi : z = i := by
            by_cases e : z = i
            · exact e
            · have : l z = true := by simpa [e] using h
              rw [hlz] at this; cases this
          subst hzi
          have := hzw o l ho hw j hj hji
          simp [this]
    refine ⟨hs.1, ?_⟩
    have hst := hJ.st
    by_cases hi1 : i = k1
    · subst hi1
      have h2 : l k2 = false := by
        cases h : l k2 with
        | false => rfl
        | true => rw [hJ.ord h] at hli; cases hli
      rw [hli, h2] at hst
      refine Oper.wp_mono ?_ (hs.2.2.1 rfl a w1 (hJ.kept hlz) hfinds hst)
      rintro a' w2 ⟨rfl, hB⟩
      have e2 : (l k2 || k2 == i) = false := by rw [h2]; simpa using hne.symm
      exact ⟨V i, rfl, next w2 (fun _ => by simp) (by rw [e2, show (l i || i == i) = true by simp]; exact hB)⟩
    · by_cases hi2 : i = k2
      · subst hi2
        have h1 : l k1 = true := by
          unfold afterB at h21
          rw [ho] at h21
          exact waitsB_at hw k1 h21
        rw [hli, h1] at hst
        refine Oper.wp_mono ?_ (hs.2.2.2 rfl a w1 (hJ.kept hlz) hfinds hst)
        rintro a' w2 ⟨rfl, hB⟩
        exact ⟨V i, rfl, next w2 (fun _ => by simp [h1]) (by rw [show (l k1 || k1 == i) = true by simp [h1], show (l i || i == i) = true by simp]; exact hB)⟩
      · have hr := hs.2.1 hi1 hi2 _ _ a w1 (hJ.kept hlz) hfinds hst
        unfold Oper.wp
        rw [hr, Oper.upon_value]
        have n1 : ¬ k1 = i := fun e => hi1 e.symm
        have n2 : ¬ k2 = i := fun e => hi2 e.symm
        have e1 : (l k1 || k1 == i) = l k1 := by simp [n1]
        have e2 : (l k2 || k2 == i) = l k2 := by simp [n2]
        exact ⟨V i, rfl, next w1 (by rw [e1, e2]; exact hJ.ord) (by rw [e1, e2]; exact hst)⟩
  · intro l a w1 hall hJ ht hd hkp
    have hst := hJ.st
    rw [hall k1 hk1, hall k2 hk2] at hst
    exact hQ a w1 (ht.trans hn.symm) hd hkp (fun i o d ho hdst => hJ.vals i o d ho (hall i (Array.getElem?_eq_some_iff.1 ho).1) hdst) hst
/-- A call that returns a known value. -/
theorem wp_call_at {P : Program} {o : Oper} {a : Act} {w : World} {T : World → Prop} {Q : Exit → Act → World → Prop} (f : FuncId) (args : Array Value) (v : Value) (hrun : (execOp a.eval o).run P w = .ok (.enter f args) w)
    (hc : Calls P f args w fun e w' => e = .returned v ∧ T w') : o.wp P a w (fun a' w' => a' = a.put o.dst v ∧ T w') Q := by
  unfold Oper.wp
  rw [hrun]
  refine hc.mono ?_
  rintro e w' ⟨rfl, hv⟩
  exact ⟨rfl, hv⟩
end Go.Proofs.YtgdhjgfoalianaaDoor
