/-
  The reference's disk: Write.
-/
import Derived.Test.YtnkcjhfdmnpckaaRefY
namespace Go.Proofs.Ytnkcjhfdmnpckaa
open Go.RowKit
open Pd (DM spl)
/-- What j bytes of a write leave. -/
def wrt (e : DM) (p : Nat) (b : List UInt8) (j : Nat) : DM := { e with now := spl e.now p (b.take j), dirty := Pd.touch e.dirty p j }
theorem wrt_ok {n : Nat} {e : DM} (hk : Pd.Ok n e) {p : Nat} {b : List UInt8} (hp : p + b.length ≤ e.now.length) {j : Nat} (hj : j ≤ b.length) : Pd.Ok n (wrt e p b j) := by
  have hl : (b.take j).length = j := by simp; omega
  have hfit : p + (b.take j).length ≤ e.now.length := by omega
  refine ⟨(Pd.spl_length hfit).trans hk.now, hk.safe, Pd.touch_nodup hk.nodup _, fun s hs => ?_, fun x hx => ?_⟩
  · rcases Pd.mem_touch.1 hs with hs | ⟨y, hy, rfl⟩
    · exact hk.low s hs
    · have hen : e.now.length = 32 * n := hk.now
      omega
  · have hnt : x / 32 ∉ e.dirty ∧ ¬ (p ≤ x ∧ x < p + j) := by
      refine ⟨fun hm => hx (Pd.mem_touch.2 (.inl hm)), fun hm => hx (Pd.mem_touch.2 (.inr ⟨x - p, by omega, by congr 1; omega⟩))⟩
    show (spl e.now p (b.take j))[x]? = e.safe[x]?
    rw [Pd.spl_get hfit, hl, if_neg hnt.2]
    exact hk.alike x hnt.1
theorem write_eq {m e : DM} {sb : Bool} {p : Int} {b : List UInt8} {k : Nat} (ho : m.off = false) (q1 : ¬ p < 0) (q2 : ¬ ((m.now.length : Int) < p ∨ (m.now.length : Int) - p < b.length)) (hb : b ≠ []) (hk : b.length = k) (hst : Pd.strike m = (sb, e)) :
    Pd.write m p b = if sb then (7, e) else (0, wrt e p.toNat b k) := by
  unfold Pd.write
  rw [if_neg (by rw [ho]; simp), if_neg q1, if_neg q2, if_neg hb, hst]
  cases sb with
  | true => rfl
  | false =>
    show (0, _) = (0, wrt e p.toNat b k)
    unfold wrt
    rw [List.take_of_length_le (by omega), hk]
theorem own_set {w : World} {g cap q : Nat} {l : List UInt8} {cur : List Value} (x : UInt8) (hB : Blk w g 5 cur) (hc : cur.length = cap) (h1 : l.length ≤ cap) (h2 : cap ≤ maxLen) (ht : cur.take l.length = By l) :
    Own (w.setCell ⟨g, q, none⟩ (.int .u8 (x.toNat : Int))) 0 (.slice (some ⟨g, 0, none⟩) l.length cap) (l.set q x) := by
  have hb := hB.set q (.int .u8 (x.toNat : Int))
  refine ⟨by rw [By_length]; omega, .inr ⟨g, cap, (cur.set q (.int .u8 (x.toNat : Int))).toArray, by rw [List.length_set], Nat.zero_le _, hb, by rw [List.length_set]; omega, h2, by simp; omega, ?_⟩⟩
  rw [List.length_set, Nat.mul_one, ← By_set, ← ht]
  simp only [List.take_set]
theorem RAt.now_laid {w w' : World} {R : Nat} {vn vs vd vk : Value} {m : DM} {S : List UInt8} (h : RAt w R vn vs vd vk m) (hc : Chg (fun k => vn.ownBlock = some k) w w') (hs : Own w' 0 vn S) : RAt w' R vn vs vd vk { m with now := S } := by
  obtain ⟨n1, n2, n3, n4⟩ := h.nR
  refine ⟨h.blk.chg hc (fun e => n1 R e rfl), hs, ownB_chg h.safe hc (fun b hb e => h.ns b e hb), h.dirty.chg hc ?_, h.keep.chg hc ?_, h.kw, h.ns, h.dk, h.am⟩
  all_goals
    intro b hb e
    obtain ⟨cur, hh⟩ := OwnN.block (by first | exact h.dirty | exact h.keep) hb
    obtain ⟨_, h2⟩ := h.now
    rcases h2 with ⟨rfl, _⟩ | ⟨g, cap, cur', rfl, hg, hh', r⟩
    · cases e
    · cases e
      rw [hh'] at hh
      simp at hh
theorem own_apart {w : World} {v u : Value} {l : List UInt8} {k : List Int} (h : Own w 0 v l) (h' : OwnN w u k) (b : Nat) (hb : v.ownBlock = some b) (hb' : u.ownBlock = some b) : False := by
  obtain ⟨cur, hh⟩ := h'.block hb'
  obtain ⟨_, h2⟩ := h
  rcases h2 with ⟨rfl, _⟩ | ⟨g, cap, cur', rfl, hg, hh', r⟩
  · cases hb
  · cases hb
    rw [hh'] at hh
    simp at hh
/-- One sector more among those that are dirty. -/
theorem RAt.more {w wa w5 : World} {R : Nat} {vn vs vd vk v5 : Value} {m : DM} (s : Nat) (h : RAt w R vn vs vd vk m) (hU : Chg (fun y => vd.ownBlock = some y) w wa) (ho : OwnN wa v5 (Nats (m.dirty ++ [s]))) (hl : ∀ y, v5.ownBlock = some y → vd.ownBlock = some y ∨ w.heap.size ≤ y) (h5 : w5 = wa.setCell ⟨R, 2, none⟩ v5) :
    RAt w5 R vn vs v5 vk { m with dirty := m.dirty ++ [s] } ∧ Chg (fun y => vd.ownBlock = some y ∨ y = R) w w5 := by
  obtain ⟨n1, n2, n3, n4⟩ := h.nR
  have hB : Chg (fun y => y = R) wa w5 := by rw [h5]; exact Chg.setCell (F := fun y => y = R) wa rfl 2 v5
  refine ⟨⟨?_, (ownB_chg h.now hU (own_apart h.now h.dirty)) |> fun x => ownB_chg x hB n1, (ownB_chg h.safe hU (own_apart h.safe h.dirty)) |> fun x => ownB_chg x hB n2, OwnN.chg (w := wa) ho hB (fun y hy e => ?_), (h.keep.chg hU (fun y hy e => h.dk y e hy)).chg hB n4, h.kw, h.ns, fun y hy hk => ?_, h.am⟩, (hU.mono (fun _ _ e => Or.inl e)).trans (hB.mono (fun _ _ e => Or.inr e))⟩
  · have := (h.blk.chg hU (fun e => n3 R e rfl)).set 2 v5
    rw [← h5] at this
    exact this
  · rcases hl y hy with e' | e'
    · exact n3 y e' e
    · have := h.blk.lt
      omega
  · rcases hl y hy with e' | e'
    · exact h.dk y e' hk
    · have := own_lt h.keep hk
      omega
set_option maxHeartbeats 4000000 in
set_option maxRecDepth 100000 in
theorem rWrite_any {w : World} {c : Nat → Nat} {i R n : Nat} {m : DM} (h : IsR w c i R n m) (hN : Norm c w) (p : Int) (hpw : (Lit.int .i64 p).wf = true) (v : Value) (b : List UInt8) (hr : Rd w v b) (hv : Cool c v) (hb : b.length ≤ 1000000) :
    Calls Try.prog 26 #[.pointer (some ⟨R, 0, none⟩), .int .i64 p, v] w fun e w' => e = .returned (.int .i64 ((Pd.write m p b).1 : Int)) ∧ ∃ c', IsR w' c' i R n (Pd.write m p b).2 ∧ Step c i w c' w' := by
  have H : Hid (IsR w c i R n m) := h
  have HN : Hid (Norm c w) := hN
  have HR : Hid (Rd w v b) := hr
  have HV : Hid (Cool c v) := hv
  obtain ⟨vn, vs, vd, vk, hA, hO, hn, -, -, -, -, -, h6⟩ := h
  have bp := bounds_i64 hpw
  have c0 := hA.blk.cell (j := 0) rfl
  have c3 := hA.blk.cell (j := 3) rfl
  obtain ⟨L, HL⟩ : ∃ L, Hid (32 * n = L) := ⟨_, rfl⟩
  have hLl : L ≤ 131072 := by have := HL.out; have := hn.2.2; omega
  have hsl : m.now.length = L := hO.now.trans HL.out
  obtain ⟨gn, cpn, hvn, hcn⟩ := Own.some hA.now (by have := HL.out; have := hn.2.1; omega)
  rw [hsl] at hvn hcn
  rw [hvn] at c0
  have HSL : Hid (m.now.length = L) := hsl
  obtain ⟨k, HK⟩ : ∃ k, Hid (b.length = k) := ⟨_, rfl⟩
  rw [HK.out] at hb
  obtain ⟨a, cp, hvv, -⟩ := hr
  rw [HK.out] at hvv
  subst hvv
  clear hA hO hN hv hvn hsl
  have none : ∀ {x : Nat × DM}, x.2 = m → ∃ c', IsR w c' i R n x.2 ∧ Step c i w c' w := fun e => by rw [e]; exact ⟨c, H.out, Chg.refl _ _, fun _ _ => rfl, HN.out⟩
  have NO : Hid (∀ {x : Nat × DM}, x.2 = m → ∃ c', IsR w c' i R n x.2 ∧ Step c i w c' w) := none
  clear none
  go_enter Try.func26, Try.ntmps26
  cases ho : m.off with
  | true =>
    rw [ho] at c3
    have HE : Hid (Pd.write m p b = (7, m)) := (show _ = _ by unfold Pd.write; rw [if_pos ho])
    go_wp2
    go_ret
    exact ⟨by rw [HE.out]; rfl, NO.out (by rw [HE.out])⟩
  | false =>
    rw [ho] at c3
    by_cases q1 : p < 0
    · have HE : Hid (Pd.write m p b = (2, m)) := (show _ = _ by unfold Pd.write; rw [if_neg (by rw [ho]; simp), if_pos q1])
      have q1' : decide (p < 0) = true := by simpa using q1
      go_wp2
      go_ret
      exact ⟨by rw [HE.out]; rfl, NO.out (by rw [HE.out])⟩
    have q1' : decide (p < 0) = false := by simpa using q1
    by_cases q2 : (L : Int) < p
    · have HE : Hid (Pd.write m p b = (6, m)) := (show _ = _ by unfold Pd.write; rw [if_neg (by rw [ho]; simp), if_neg q1, HSL.out, if_pos (.inl q2)])
      have q2' : decide ((L : Int) < p) = true := by simpa using q2
      go_wp2
      go_ret
      exact ⟨by rw [HE.out]; rfl, NO.out (by rw [HE.out])⟩
    have q2' : decide ((L : Int) < p) = false := by simpa using q2
    have w4 : IntKind.i64.wrap ((L : Int) - p) = (L : Int) - p := wr64 (by omega) (by omega)
    by_cases q3 : (L : Int) - p < k
    · have HE : Hid (Pd.write m p b = (6, m)) := (show _ = _ by unfold Pd.write; rw [if_neg (by rw [ho]; simp), if_neg q1, HSL.out, HK.out, if_pos (.inr q3)])
      have q3' : decide ((L : Int) - p < k) = true := by simpa using q3
      go_wp2
      go_ret
      exact ⟨by rw [HE.out]; rfl, NO.out (by rw [HE.out])⟩
    have q3' : decide ((L : Int) - p < k) = false := by simpa using q3
    by_cases q5 : k = 0
    · have HE : Hid (Pd.write m p b = (0, m)) := (show _ = _ by unfold Pd.write; rw [if_neg (by rw [ho]; simp), if_neg q1, HSL.out, HK.out, if_neg (by omega), if_pos (List.eq_nil_of_length_eq_zero (HK.out.trans q5))])
      subst q5
      go_wp2
      go_ret
      exact ⟨by rw [HE.out]; rfl, NO.out (by rw [HE.out])⟩
    have q5' : ((k : Int) == 0) = false := by simpa using q5
    cases hst : Pd.strike m with
    | mk sb e =>
      have HE0 : Hid (Pd.write m p b = if sb then (7, e) else (0, wrt e p.toNat b k)) := (show _ = _ by
        have hk0 := HK.out
        exact write_eq ho q1 (by rw [HSL.out, hk0]; omega) (fun e => q5 (by rw [e] at hk0; exact hk0.symm)) hk0 hst)
      have HST : Hid (Pd.strike m = (sb, e)) := hst
      have HC : Hid _ := rstrikes_any H.out HN.out ho
      rw [hst] at HC
      clear hst
      cases sb with
      | true =>
        go_wp2_with (first
          | (go_at_call 43; refine Calls.mono HC.out ?_; rintro e w2 ⟨rfl, hw2⟩; have HW2 : Hid _ := hw2; clear hw2)
          | fail)
        go_ret
        rw [HE0.out]
        exact ⟨rfl, HW2.out⟩
      | false =>
        go_wp2_with (first
          | (go_at_call 43; refine Calls.mono HC.out ?_; rintro e' w2 ⟨rfl, c2', hI2, hs2⟩; have HI2 : Hid (IsR w2 c2' i R n e) := hI2; have HS2 : Hid (Step c i w c2' w2) := hs2; clear hI2 hs2)
          | fail)
        obtain ⟨P, rfl⟩ : ∃ P : Nat, p = (P : Int) := ⟨p.toNat, by omega⟩
        have hPk : P + k ≤ L := by omega
        have HNE : Hid (e.now.length = L) := (show _ = _ by rw [(strike_on HST.out).2.1]; exact HSL.out)
        have HE1 : Hid (Pd.write m (P : Int) b = (0, wrt e P b k)) := (show _ = _ by rw [HE0.out]; rfl)
        clear HC q1 q1' q2 q2' q3 q3' w4 q5' c0 c3 HE0
        go_loopg [47] k (fun g x wr => ∃ (j : Nat) (cj : Nat → Nat), g + j = k ∧ x = .int .i64 (j : Int) ∧ Hid (IsR wr cj i R n (wrt e P b j)) ∧ Hid (Step c i w cj wr))
        case atStart => exact ⟨0, c2', by omega, rfl, (show IsR _ _ _ _ _ _ by rw [show wrt e P b 0 = e by unfold wrt; rw [List.take_zero, Pd.spl_nil]; rfl]; exact HI2.out), HS2⟩
        case round =>
          obtain ⟨j, cj, hgj, rfl, I1, S1⟩ := hrel
          by_cases hlt : j < k
          · have q7 : (j : Int) < (k : Int) := by omega
            have hjb : j < b.length := by rw [HK.out]; exact hlt
            obtain ⟨x, HX⟩ : ∃ x, Hid (b[j] = x) := ⟨b[j], (show b[j] = b[j] from rfl)⟩
            obtain ⟨bb, ob, hadd, hcc⟩ : ∃ bb ob, a = some ⟨bb, ob, none⟩ ∧ wr.cell? ⟨bb, ob + j, none⟩ = some (.int .u8 (x.toNat : Int)) := by
              have r1 : Rd wr (.slice a k cp) b := HR.out.chg S1.out.chg (fun y hy e => h6 (e.symm.trans (HV.out y hy)))
              obtain ⟨_, _, e1, -, -, -, h4⟩ := r1
              simp only [Value.slice.injEq] at e1
              obtain ⟨rfl, -, -⟩ := e1
              obtain ⟨bb, ob, e, -, hc⟩ := h4 (by omega)
              exact ⟨bb, ob, e, by rw [hc j _ (By_get hjb), HX.out]⟩
            subst hadd
            obtain ⟨xn, xs, xd, xk, hA, hO, hn', g1, g2, g3, g4, g5, -⟩ := I1.out
            have A1 : Hid (RAt wr R xn xs xd xk (wrt e P b j)) := hA
            have HO1 : Hid (Pd.Ok n (wrt e P b j)) := hO
            have hnl : (wrt e P b j).now.length = L := hO.now.trans HL.out
            obtain ⟨gw, cpw, cur, hxn, HBs, hcl, hcw, hcm, htk⟩ := own_blk hA.now (by rw [hnl]; have := HL.out; have := hn.2.1; omega)
            rw [hnl] at hxn hcw htk
            have d0 := hA.blk.cell (j := 0) rfl
            rw [hxn] at d0
            obtain ⟨q, HQ⟩ : ∃ q, Hid (P + j = q) := ⟨_, rfl⟩
            have hqL : q < L := by have := HQ.out; omega
            have f1 : IntKind.i64.wrap ((P : Int) + (j : Int)) = (q : Int) := (wr64 (by omega) (by omega)).trans (by have := HQ.out; omega)
            have hqc : q < cur.length := by omega
            have dq : wr.cell? ⟨gw, q, none⟩ = some (cur[q]'hqc) := HBs.cell (List.getElem?_eq_getElem hqc)
            have zq := HBs.frozen q
            obtain ⟨w3, hw3⟩ : ∃ y, y = wr.setCell ⟨gw, q, none⟩ (.int .u8 (x.toNat : Int)) := ⟨_, rfl⟩
            have HSP : Hid ((spl e.now P (b.take j)).set q x = spl e.now P (b.take (j + 1))) := (show _ = _ by
              have h7 : (b.take j).length = j := by rw [List.length_take]; omega
              have := Pd.spl_snoc (l := e.now) (b := b.take j) (p := P) x (by rw [h7, HNE.out]; omega)
              rw [h7, HQ.out] at this
              rw [this, ← HX.out, List.take_succ_eq_append_getElem hjb])
            have C3 : Hid (Chg (fun y => xn.ownBlock = some y) wr w3) := (show Chg _ _ _ by
              rw [hw3, hxn]
              exact Chg.setCell (F := fun y => some gw = some y) _ rfl q _)
            obtain ⟨T, HT⟩ : ∃ T, Hid (Pd.touch e.dirty P j = T) := ⟨_, rfl⟩
            have A3 : Hid (RAt w3 R xn xs xd xk { e with now := spl e.now P (b.take (j + 1)), dirty := T }) := (show RAt _ _ _ _ _ _ _ by
              have h7 := own_set (q := q) x HBs hcl (l := spl e.now P (b.take j)) (by show (wrt e P b j).now.length ≤ _; rw [hnl]; exact hcw) hcm (by show cur.take (wrt e P b j).now.length = _; rw [hnl]; exact htk)
              rw [HSP.out, show (spl e.now P (b.take j)).length = L from hnl, ← hw3] at h7
              have := A1.out.now_laid C3.out (by rw [hxn]; exact h7)
              unfold wrt at this
              rw [HT.out] at this
              exact this)
            obtain ⟨s, HS⟩ : ∃ s, Hid (q / 32 = s) := ⟨_, rfl⟩
            have f2 : (q : Int) / 32 = (s : Int) := by have := HS.out; omega
            obtain ⟨ad, cd, hxd, -⟩ := A3.out.dirty.rd
            obtain ⟨kd, HKD⟩ : ∃ kd, Hid ((Nats T).length = kd) := ⟨_, rfl⟩
            have hxd' : xd = .slice ad kd cd := by rw [hxd]; show Value.slice ad (Nats T).length cd = _; rw [HKD.out]
            have hkd : kd ≤ 4096 := by
              have h1 := HO1.out.nodup
              have h2 := HO1.out.low
              have h3 : (wrt e P b j).dirty.length ≤ n := nodup_le h1 h2
              have h4 := HKD.out
              rw [Nats_length, ← HT.out] at h4
              have h5 : (Pd.touch e.dirty P j).length ≤ n := h3
              have := hn.2.2
              omega
            subst hxd'
            clear hxd
            have e2 := A3.out.blk.cell (j := 2) rfl
            have RD : Hid (RdN w3 (.slice ad kd cd) (Nats T)) := A3.out.dirty.rd
            have HTS : Hid (Pd.touch e.dirty P (j + 1) = Pd.adds T s) := (show _ = _ by rw [Pd.touch, HT.out, HQ.out, HS.out])
            obtain ⟨bs, HBM⟩ : ∃ y, Hid (decide ((s : Int) ∈ Nats T) = y) := ⟨_, rfl⟩
            have HMem : Hid (decide (s ∈ T) = bs) := (show _ = _ by
              rw [← HBM.out]
              congr 1
              simp only [Nats, List.mem_map]
              exact propext ⟨fun h => ⟨s, h, rfl⟩, fun ⟨y, h, e⟩ => by rwa [show y = s by omega] at h⟩)
            have HXN : Hid (xn = .slice (some ⟨gw, 0, none⟩) L cpw) := hxn
            clear hA hO htk HBs hxn
            go_upto_region 15 with fail
            rw [← hw3]
            clear hw3 d0 dq zq hcc
            go_upto_region 16 with fail
            go_upto_if 71 with (first
              | (go_at_call 44; refine (has_any RD.out (s : Int)).mono ?_; rw [HBM.out]; rintro e w4 ⟨rfl, hw4⟩; subst hw4)
              | fail)
            have HWN : Hid (wrt e P b (j + 1) = { e with now := spl e.now P (b.take (j + 1)), dirty := Pd.adds T s }) := (show _ = _ by unfold wrt; rw [HTS.out])
            have HO4 : Hid (Pd.Ok n (wrt e P b (j + 1))) := (show Pd.Ok _ _ by
              obtain ⟨_, _, _, _, _, hOe, _⟩ := HI2.out
              exact wrt_ok hOe (by rw [HNE.out, HK.out]; omega) (by omega))
            have HDK : Hid (Pd.Dark (wrt e P b (j + 1)) ∧ 0 < n ∧ n ≤ 4096) := (show _ from ⟨fun h => absurd (show e.off = true from h) (by rw [(strike_on HST.out).1, ho]; simp), hn.2⟩)
            have HLT : Hid ((Nats T).length = kd) := HKD
            cases bs with
            | true =>
              have hin : s ∈ T := by simpa using HMem.out
              have HI : Hid (IsR w4 (paint cj wr w4 i) i R n (wrt e P b (j + 1)) ∧ Step cj i wr (paint cj wr w4 i) w4) := (show _ ∧ _ by
                refine IsR.of_at (C3.out.mono (fun y _ e => g2 y e)) ?_ HO4.out HDK.out (fun _ => g1) (fun y hy _ => g2 y hy) (fun y hy _ => g3 y hy) (fun y hy _ => g4 y hy) (fun y hy _ => g5 y hy) h6
                rw [HWN.out, Pd.adds, if_pos hin]
                exact A3.out)
              have HI' : Hid (IsR w4 (paint cj wr w4 i) i R n (wrt e P b (j + 1))) := HI.out.1
              have HS' : Hid (Step c i w (paint cj wr w4 i) w4) := S1.out.then HI.out.2
              clear hin f1 f2 e2
              go_wp2_with fail
              go_roundg (k - (j + 1))
              case measure => omega
              case rel => exact ⟨j + 1, _, by omega, by go_num, HI', HS'⟩
            | false =>
              have hin : s ∉ T := by simpa using HMem.out
              have HIN : Hid (s ∉ T) := hin
              obtain ⟨i0, hi0, hz0, hz1, hz2⟩ := info_parts Try.info3
              have HOD : Hid (OwnN w4 (.slice ad kd cd) (Nats T)) := A3.out.dirty
              have e2' := (A3.out.blk.alloc (.cells #[.int .i64 (s : Int)] 3 (0, 0))).cell (j := 2) rfl
              clear hin f1 f2
              go_upto_region 18 with (first
                | (at_builtin; refine wpList_append_own_at _ rfl _ _ 30 rfl 0 3 i0 (.int .i64 0) 1 8 Try.underlying30 hi0 hz0 hz1 hz2 rfl (by decide) (.slice ad kd cd) (Nats T).length (Ni (Nats T)) rfl (HOD.out.chg (F := fun _ => False) (Chg.alloc _ _ _) (fun _ _ => id)) ⟨w4.heap.size, 0, none⟩ 1 1 [.int .i64 (s : Int)] rfl rfl (cell_one_new _ _ _) (Ni_one [(s : Int)]) (by rw [HLT.out]; unfold maxLen; omega) (by rw [HLT.out]; omega) (by simp) ?_; intro v5 wa ho5 hg5 hn5 hl5; clear hn5; have HO5 : Hid _ := ho5; have HG5 : Hid _ := hg5; have HL5 : Hid _ := hl5; have da := A3.out.blk.chg ((Chg.alloc (fun y => (Value.slice ad kd cd).ownBlock = some y) w4 _).trans (Chg.of_grown hg5 (fun k e _ => e))) (fun e => A3.out.nR.2.2.1 R e rfl); have ca := da.cell (j := 2) rfl; have za := da.frozen 2; have hv5 := slice_of_owns ho5; clear ho5 hg5 hl5 da; obtain ⟨gx5, cp5, he5⟩ := hv5; rw [he5])
                | fail)
              rw [← he5]
              obtain ⟨w5, hw5⟩ : ∃ y, y = wa.setCell ⟨R, 2, none⟩ v5 := ⟨_, rfl⟩
              rw [← hw5]
              have UA : Hid (Chg (fun y => (Value.slice ad kd cd).ownBlock = some y) w4 wa) := (Chg.alloc (fun y => (Value.slice ad kd cd).ownBlock = some y) w4 _).trans (Chg.of_grown HG5.out (fun k e _ => e))
              have HM5 : Hid (RAt w5 R xn xs v5 xk { e with now := spl e.now P (b.take (j + 1)), dirty := T ++ [s] } ∧ Chg (fun y => (Value.slice ad kd cd).ownBlock = some y ∨ y = R) w4 w5) := (show _ ∧ _ by
                refine A3.out.more s UA.out ?_ (fun y hy => ?_) hw5
                · have := HO5.out
                  unfold OwnN
                  show wa.ownsRow 0 3 1 v5 (Nats (T ++ [s])).length (Ni (Nats (T ++ [s])))
                  rw [show Nats (T ++ [s]) = Nats T ++ [(s : Int)] by simp [Nats], Ni_append, List.length_append]
                  exact this
                · rcases HL5.out with e | e
                  · exact .inl (e ▸ hy)
                  · rw [e] at hy
                    cases hy
                    refine .inr ?_
                    simp)
              have HI : Hid (IsR w5 (paint cj wr w5 i) i R n (wrt e P b (j + 1)) ∧ Step cj i wr (paint cj wr w5 i) w5) := (show _ ∧ _ by
                refine IsR.of_at ((C3.out.mono (fun y _ e => g2 y e)).then HM5.out.2 (fun y _ e => e.elim (g4 y) (fun e => by rw [e]; exact g1))) (vn := xn) (vs := xs) (vd := v5) (vk := xk) ?_ HO4.out HDK.out (fun _ => g1) (fun y hy _ => g2 y hy) (fun y hy _ => g3 y hy) (fun y hy hlt => ?_) (fun y hy _ => g5 y hy) h6
                · rw [HWN.out, Pd.adds, if_neg HIN.out]
                  exact HM5.out.1
                · rcases HL5.out with e | e
                  · exact g4 y (e ▸ hy)
                  · rw [e] at hy
                    cases hy
                    have := C3.out.size
                    simp at hlt
                    omega)
              have HI' : Hid (IsR w5 (paint cj wr w5 i) i R n (wrt e P b (j + 1))) := HI.out.1
              have HS' : Hid (Step c i w (paint cj wr w5 i) w5) := S1.out.then HI.out.2
              clear hw5 ca za e2 e2' he5 HO5 HG5 HL5
              go_wp2_with fail
              go_roundg (k - (j + 1))
              case measure => omega
              case rel => exact ⟨j + 1, _, by omega, by go_num, HI', HS'⟩
          · obtain rfl : j = k := by omega
            go_wp2
            go_ret
            rw [HE1.out]
            exact ⟨rfl, cj, I1.out, S1.out⟩
end Go.Proofs.Ytnkcjhfdmnpckaa
