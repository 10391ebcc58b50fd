/-
  The reference's disk: Crash.
-/
import Derived.Test.YtnkcjhfdmnpckaaRefB
namespace Go.Proofs.Ytnkcjhfdmnpckaa
open Go.RowKit
open Pd (DM spl)
theorem form_len {w : World} {B L : Nat} {v : Value} {S : List UInt8} (h : Own w B v ([] ++ S)) (hl : S.length = L) : ∃ a cap, v = .slice a L cap := by
  obtain ⟨a, cap, e⟩ := Own.form h
  exact ⟨a, cap, by rw [e, List.nil_append, hl]⟩
theorem RAt.safe_laid {w w' : World} {R : Nat} {vn vs vd vk : Value} {m : DM} {S : List UInt8} (h : RAt w R vn vs vd vk m) (hc : Chg (fun k => vs.ownBlock = some k) w w') (hs : Own w' 0 vs S) : RAt w' R vn vs vd vk { m with safe := S } := by
  obtain ⟨n1, n2, n3, n4⟩ := h.nR
  refine ⟨h.blk.chg hc (fun e => n2 R e rfl), ownB_chg h.now hc (fun b hb e => h.ns b hb e), hs, h.dirty.chg hc ?_, h.keep.chg hc ?_, h.kw, h.ns, h.dk, h.am⟩
  all_goals
    intro b hb e
    obtain ⟨cur, hh⟩ := OwnN.block (by first | exact h.dirty | exact h.keep) hb
    obtain ⟨_, h2⟩ := h.safe
    rcases h2 with ⟨rfl, _⟩ | ⟨g, cap, cur', rfl, hg, hh', r⟩
    · cases e
    · cases e
      rw [hh'] at hh
      simp at hh
set_option maxHeartbeats 4000000 in
set_option maxRecDepth 100000 in
theorem rcrash_at {w : World} {R n : Nat} {m : DM} {vn vs vd vk : Value} (hA : RAt w R vn vs vd vk m) (hO : Pd.Ok n m) (hn : 0 < n ∧ n ≤ 4096) (ho : m.off = false) (v : Value) (l : List Int) (t : Int) (hr : RdN w v l) (hv : ∀ b, InB v b → vs.ownBlock ≠ some b) :
    Calls Try.prog 30 #[.pointer (some ⟨R, 0, none⟩), v, .int .i64 t] w fun e w' => e = .returned (.bool true) ∧ ∃ vn', RAt w' R vn' vs (.slice none 0 0) vk (Pd.crash m l t) ∧ (∀ b, vn'.ownBlock = some b → w.heap.size ≤ b) ∧ Chg (fun k => k = R ∨ vs.ownBlock = some k) w w' := by
  have HA : Hid (RAt w R vn vs vd vk m) := hA
  have HO : Hid (Pd.Ok n m) := hO
  have HR : Hid (RdN w v l) := hr
  have HV : Hid (∀ b, InB v b → vs.ownBlock ≠ some b) := hv
  have c3 := hA.blk.cell (j := 3) rfl
  rw [ho] at c3
  have c2 := hA.blk.cell (j := 2) rfl
  obtain ⟨ad, cd, hvd, -⟩ := hA.dirty.rd
  rw [hvd] at c2
  clear hA hO hr hv
  obtain ⟨k, HK⟩ : ∃ k, Hid ((Nats m.dirty).length = k) := ⟨_, rfl⟩
  rw [HK.out] at c2 hvd
  have HVD : Hid (vd = .slice ad k cd) := hvd
  have HK4 : Hid (k ≤ 4096) := (show _ ≤ _ by
    have h1 := HO.out.nodup
    have h2 := HO.out.low
    have h3 : m.dirty.length ≤ n := nodup_le h1 h2
    have := HK.out
    rw [Nats_length] at this
    omega)
  have hk4 := HK4.out
  clear hvd
  go_enter Try.func30, Try.ntmps30
  go_upto_if 16 with fail
  go_cut [2] (fun s2 wx => wx = w ∧ ∃ u : Int, s2 = .int .i64 u ∧ Hid (0 ≤ u ∧ (0 ≤ t → u = t) ∧ (t < 0 → u = 0)))
  case first =>
    by_cases ht : t < 0
    · have q : decide (t < 0) = true := by simpa using ht
      go_wp2_with fail
      go_meet
      exact ⟨rfl, 0, rfl, (show _ from ⟨by omega, fun h => by omega, fun _ => rfl⟩)⟩
    · have q : decide (t < 0) = false := by simpa using ht
      go_wp2_with fail
      go_meet
      exact ⟨rfl, t, rfl, (show _ from ⟨by omega, fun _ => rfl, fun h => by omega⟩)⟩
  case rest =>
    obtain ⟨hwc, u, rfl, HU⟩ := hcut
    subst hwc
    go_upto_if 18 with fail
    go_cut [2] (fun s2 wx => wx = wc ∧ ∃ u' : Nat, s2 = .int .i64 (u' : Int) ∧ Hid (u' = Pd.clip t))
    case first =>
      obtain ⟨u1, u2, u3⟩ := HU.out
      by_cases ht : 32 < u
      · have q : decide (32 < u) = true := by simpa using ht
        have e : 32 = Pd.clip t := by unfold Pd.clip; rw [if_neg (by omega), if_pos (by omega)]
        go_wp2_with fail
        go_meet
        exact ⟨rfl, 32, rfl, e⟩
      · have q : decide (32 < u) = false := by simpa using ht
        have e : u = (Pd.clip t : Int) := by
          unfold Pd.clip
          by_cases h0 : t < 0
          · rw [if_pos h0, u3 h0]; rfl
          · rw [if_neg h0, if_neg (by omega), u2 (by omega)]; omega
        go_wp2_with fail
        go_meet
        exact ⟨rfl, Pd.clip t, by rw [← e], (show _ = _ from rfl)⟩
    case rest =>
      obtain ⟨hwc', u', rfl, HU'⟩ := hcut
      subst hwc'
      obtain ⟨W0, hW0⟩ : ∃ x, x = wc := ⟨_, rfl⟩
      subst hW0
      clear HU
      have HU32 : Hid (u' ≤ 32) := (show _ ≤ _ by rw [HU'.out]; exact Pd.clip_le t)
      go_wp2_with fail
      go_loopg [24, 7] k (fun g x y wr => ∃ (i : Nat) (f : Bool) (S : List UInt8), g + i = k ∧ x = .int .i64 (i : Int) ∧ y = .bool f ∧ Hid (RAt wr R vn vs vd vk { m with safe := S }) ∧ Hid (Chg (fun b => vs.ownBlock = some b) W0 wr) ∧ Hid (S.length = 32 * n) ∧ Hid (Pd.left m.now l u' (m.dirty.drop i) f S = Pd.left m.now l u' m.dirty true m.safe))
      case atStart => exact ⟨0, true, m.safe, by omega, rfl, rfl, HA.out, (show Chg _ _ _ from Chg.refl _ _), HO.out.safe, (show _ = _ from rfl)⟩
      case round =>
        obtain ⟨i, f, S, hgi, rfl, rfl, A1, C1, S1, E1⟩ := hrel
        by_cases hlt : i < k
        · have q2 : (i : Int) < (k : Int) := by omega
          have hil : i < m.dirty.length := by have := HK.out; rw [Nats_length] at this; omega
          obtain ⟨s, HS⟩ : ∃ s, Hid (m.dirty[i] = s) := ⟨m.dirty[i], (show m.dirty[i] = m.dirty[i] from rfl)⟩
          have HSn : Hid (s < n) := (show _ < _ by rw [← HS.out]; exact HO.out.low _ (List.getElem_mem hil))
          obtain ⟨bd, od, hadd, hcc⟩ : ∃ bd od, ad = some ⟨bd, od, none⟩ ∧ wr.cell? ⟨bd, od + i, none⟩ = some (.int .i64 (s : Int)) := by
            have hd := A1.out.dirty.rd
            rw [HVD.out] at hd
            obtain ⟨_, _, e1, -, -, -, h4⟩ := hd
            simp only [Value.slice.injEq] at e1
            obtain ⟨rfl, -, -⟩ := e1
            have hlen : (Nats m.dirty).length = k := HK.out
            obtain ⟨bd, od, e, -, hc⟩ := h4 (by show 0 < (Nats m.dirty).length; omega)
            refine ⟨bd, od, e, ?_⟩
            rw [hc i (by show i < (Nats m.dirty).length; omega)]
            simp only [Nats, List.getElem_map]
            rw [← HS.out]
          subst hadd
          have KR : Hid (RdN wr v l) := HR.out.chg C1.out (fun b hb => HV.out b hb)
          obtain ⟨hs, HM⟩ : ∃ x, Hid (decide ((s : Int) ∈ l) = x) := ⟨_, rfl⟩
          go_upto_if 31 with (first
            | (go_at_call 44; refine (has_any KR.out (s : Int)).mono ?_; rw [HM.out]; rintro e w1 ⟨rfl, hw1⟩; subst hw1)
            | fail)
          have HD : Hid (m.dirty.drop i = s :: m.dirty.drop (i + 1)) := (show _ = _ by rw [← HS.out]; exact (List.drop_eq_getElem_cons hil))
          go_cut [7, 10] (fun s7 s10 wx => wx = w1 ∧ ∃ (f' : Bool) (N : Nat), s7 = .bool f' ∧ s10 = .int .i64 (N : Int) ∧ Hid (N ≤ 32) ∧ Hid (Pd.left m.now l u' (m.dirty.drop (i + 1)) f' (Pd.lay m.now S s N) = Pd.left m.now l u' m.dirty true m.safe))
          case first =>
            have e2 := E1.out
            rw [HD.out, Pd.left] at e2
            have hm := HM.out
            cases hs with
            | true =>
              rw [if_pos (by simpa using hm)] at e2
              have HE2 : Hid (_ = Pd.left m.now l u' m.dirty true m.safe) := e2
              clear e2 hm
              go_wp2_with fail
              go_meet
              exact ⟨rfl, f, 32, rfl, rfl, (show _ from Nat.le_refl _), HE2⟩
            | false =>
              rw [if_neg (by simpa using hm)] at e2
              have HE2 : Hid (_ = Pd.left m.now l u' m.dirty true m.safe) := e2
              clear e2 hm
              cases f with
              | true =>
                go_wp2_with fail
                go_meet
                exact ⟨rfl, false, u', rfl, rfl, HU32, HE2⟩
              | false =>
                go_wp2_with fail
                go_meet
                exact ⟨rfl, false, 0, rfl, rfl, (show _ from Nat.zero_le _), HE2⟩
          case rest =>
            obtain ⟨hwd, f', N, rfl, rfl, HN32, HE2⟩ := hcut
            subst hwd
            obtain ⟨w1, hw1⟩ : ∃ x, x = wc := ⟨_, rfl⟩
            subst hw1
            clear E1 HD hcc KR
            obtain ⟨L, HL⟩ : ∃ L, Hid (32 * n = L) := ⟨_, rfl⟩
            have hLl : L ≤ 131072 := by have := HL.out; omega
            have hnl : m.now.length = L := HO.out.now.trans HL.out
            have hsl : S.length = L := S1.out.trans HL.out
            obtain ⟨gn, cpn, hvn, hcn⟩ := Own.some A1.out.now (by show 0 < m.now.length; have := HL.out; omega)
            obtain ⟨gs, cps, cur, hvs, HBs, hcl, hcs, hcm, htk⟩ := own_blk A1.out.safe (by show 0 < S.length; have := HL.out; omega)
            rw [show ({ m with safe := S } : DM).now.length = L from hnl] at hvn hcn
            rw [show ({ m with safe := S } : DM).safe.length = L from hsl] at hvs hcs
            have c0 := A1.out.blk.cell (j := 0) rfl
            have c1 := A1.out.blk.cell (j := 1) rfl
            rw [hvn] at c0
            rw [hvs] at c1
            obtain ⟨p, HP⟩ : ∃ p, Hid (32 * s = p) := ⟨_, rfl⟩
            obtain ⟨q, HQ⟩ : ∃ q, Hid (p + N = q) := ⟨_, rfl⟩
            have hps : p + 32 ≤ L := by have := HP.out; have := HSn.out; have := HL.out; omega
            have hN := HN32.out
            have hq : q ≤ L := by have := HQ.out; omega
            have hpq : p ≤ q := by have := HQ.out; omega
            have f2 : IntKind.i64.wrap ((s : Int) * 32) = (p : Int) := (wr64 (by have := HP.out; omega) (by have := HP.out; omega)).trans (by have := HP.out; omega)
            have f3 : IntKind.i64.wrap ((p : Int) + (N : Int)) = (q : Int) := (wr64 (by omega) (by omega)).trans (by have := HQ.out; omega)
            have hs1 := slice_mid gs L cps p q hpq (by omega) (by omega)
            have hs2 := slice_mid gn L cpn p q hpq (by omega) (by omega)
            obtain ⟨X, HX⟩ : ∃ X, Hid ((m.now.drop p).take (q - p) = X) := ⟨_, rfl⟩
            have HXl : Hid (X.length = q - p) := (show _ = _ by rw [← HX.out]; simp; omega)
            have RX : Hid (Rd w1 (.slice (some ⟨gn, p, none⟩) (q - p) (cpn - p)) X) := (show Rd _ _ _ by
              have r0 : Rd w1 vn m.now := A1.out.now.rd
              rw [hvn] at r0
              have d1 := r0.drop p (by omega) p (.inl (by omega))
              have := d1.take (q - p) (by omega)
              rw [HX.out] at this
              exact this)
            have HXt : Hid (X.take (q - p) = X) := (show _ = _ by rw [List.take_of_length_le (by rw [HXl.out]; omega)])
            have HB1 : Hid (Blk w1 gs 5 cur) := HBs
            have hcf : p + (q - p) ≤ cur.length := by omega
            have HTK : Hid (cur.take S.length = By S) := htk
            have HVN : Hid (vn = _) := hvn
            have HVS : Hid (vs = _) := hvs
            have HOX : Hid (Own ((w1.drew).setCells gs p (By X)) 0 (.slice (some ⟨gs, 0, none⟩) L cps) (spl S p X)) := (show Own _ _ _ _ by
              have := own_laid (w := w1.drew) (S := S) (X := X) (p := p) HBs hcl (by rw [hsl]; exact hcs) hcm htk (by have := HXl.out; omega)
              rw [hsl] at this
              exact this)
            have HLAY : Hid (Pd.lay m.now S s N = spl S p X) := (show _ = _ by
              have h1 := HP.out
              have h2 := HQ.out
              rw [Pd.lay, h1, ← HX.out, show q - p = N by omega])
            obtain ⟨w2, HW2⟩ : ∃ x, Hid ((w1.drew).setCells gs p (By X) = x) := ⟨_, rfl⟩
            rw [HW2.out] at HOX
            rw [HLAY.out] at HE2
            have C12 : Hid (Chg (fun b => vs.ownBlock = some b) w1 w2) := (show Chg _ _ _ by
              rw [← HW2.out, hvs]
              exact (Chg.drew _ w1).trans (Chg.setCells (F := fun b => some gs = some b) _ rfl p _))
            have A2 : Hid (RAt w2 R vn vs vd vk { m with safe := spl S p X }) := A1.out.safe_laid C12.out (by rw [hvs]; exact HOX.out)
            have C2 : Hid (Chg (fun b => vs.ownBlock = some b) W0 w2) := C1.out.trans C12.out
            have S2 : Hid ((spl S p X).length = 32 * n) := (show _ = _ by rw [Pd.spl_length (by have := HXl.out; omega)]; exact S1.out)
            clear HBs htk hvn hvs
            go_upto_region 17 with fail
            go_region_law (refine step_copy_bytes rfl (.tmp 44) (.tmp 55) 29 29 rfl 5 Try.underlying29 Try.size5 gs p (q - p) (cps - p) (.slice (some ⟨gn, p, none⟩) (q - p) (cpn - p)) X (by simp [Act.eval, Act.put]) (by simp [Act.eval, Act.put]) RX.out X (q - p) HXt.out HXl.out 5 cur HB1.out hcf ?_)
            all_goals
              rw [HW2.out]
              clear hs1 hs2 f2 f3
              go_wp2_with fail
              go_roundg (k - (i + 1))
              case measure => omega
              case rel => exact ⟨i + 1, f', spl S p X, by omega, by go_num, rfl, A2, C2, S2, HE2⟩
        · obtain rfl : i = k := by omega
          have HSE : Hid (S = Pd.left m.now l (Pd.clip t) m.dirty true m.safe) := (show _ = _ by
            have h1 := E1.out
            have h2 := HK.out
            rw [Nats_length] at h2
            rw [List.drop_eq_nil_of_le (by omega), Pd.left, HU'.out] at h1
            exact h1)
          obtain ⟨L, HL⟩ : ∃ L, Hid (32 * n = L) := ⟨_, rfl⟩
          have hLl : L ≤ 131072 := by have := HL.out; omega
          have hsl : S.length = L := S1.out.trans HL.out
          obtain ⟨gs, cps, hvs, hcs⟩ := Own.some A1.out.safe (by show 0 < S.length; have := HL.out; omega)
          rw [show ({ m with safe := S } : DM).safe.length = L from hsl] at hvs hcs
          obtain ⟨w1, hw1⟩ : ∃ x, x = wr := ⟨_, rfl⟩
          subst hw1
          have c1 := A1.out.blk.cell (j := 1) rfl
          have c1' := (A1.out.blk.alloc (.cells #[] 5 (0, 0))).cell (j := 1) rfl
          rw [hvs] at c1 c1'
          have HRS : Hid (Rd (w1.alloc (.cells #[] 5 (0, 0))) (.slice (some ⟨gs, 0, none⟩) L cps) S) := (show Rd _ _ _ by
            have r0 : Rd w1 vs S := A1.out.safe.rd
            rw [hvs] at r0
            exact r0.kept ((Below.refl _ _).alloc (Nat.le_refl _) _))
          obtain ⟨i0, hi0, hz0, hz1, hz2⟩ := info_parts Try.info5
          have HVS : Hid (vs = _) := hvs
          clear hvs E1
          go_upto_region 20 with (first
            | (at_builtin; refine wpList_append_bytes _ rfl _ _ 29 29 rfl w1.heap.size i0 Try.underlying29 hi0 hz0 hz1 hz2 _ [] rfl (own_none w1 _ (Nat.le_refl _)) _ S rfl (HRS.out.src 29 Try.underlying29) (by simp; omega) (by simp) ?_; intro v1 w3 ho1 hb1; have HO1 : Hid (Own w3 w1.heap.size v1 ([] ++ S)) := ho1; have HB3 : Hid (Below w1.heap.size w1 w3) := (show Below _ _ _ from ((Below.refl _ _).alloc (Nat.le_refl _) _).trans hb1); have hB3 := A1.out.blk.kept HB3.out; have d0 := hB3.cell (j := 0) rfl; have z0 := hB3.frozen 0; clear ho1 hb1 hB3; obtain ⟨a1, cp1, hv1⟩ := form_len HO1.out hsl; subst hv1)
            | fail)
          obtain ⟨w4, hw4⟩ : ∃ x, x = w3.setCell ⟨R, 0, none⟩ (.slice a1 L cp1) := ⟨_, rfl⟩
          rw [← hw4]
          have HB4 : Hid (Blk w4 R 60 (RC (.slice a1 L cp1) vs vd m.off (m.armed : Int) vk m.torn)) := (show Blk _ _ _ _ by
            have := (A1.out.blk.kept HB3.out).set 0 (.slice a1 L cp1)
            rw [hw4]
            exact this)
          have C4 : Hid (Chg (fun b => b = R) w1 w4) := (show Chg _ _ _ by rw [hw4]; exact (Chg.of_below HB3.out).trans (Chg.setCell (F := fun b => b = R) _ rfl 0 _))
          have O4 : Hid (Own w4 0 (.slice a1 L cp1) S) := (show Own _ _ _ _ by
            have h1 : Own w3 0 (.slice a1 L cp1) S := Own.mono HO1.out (Nat.zero_le _)
            rw [hw4]
            exact ownB_chg h1 (Chg.setCell (F := fun b => b = R) _ rfl 0 _) (fun b hb e => by
              have h2 := (World.ownsRow.lt HO1.out b hb).1
              have h3 := A1.out.blk.lt
              omega))
          have HNB : Hid (∀ b, (Value.slice a1 L cp1).ownBlock = some b → w1.heap.size ≤ b) := fun b hb => (World.ownsRow.lt HO1.out b hb).1
          have e2 := HB4.out.cell (j := 2) rfl
          have e3 := HB4.out.cell (j := 3) rfl
          have e4 := HB4.out.cell (j := 4) rfl
          have y2 := HB4.out.frozen 2
          have y3 := HB4.out.frozen 3
          have y4 := HB4.out.frozen 4
          clear hw4 d0 z0 c1 c1' HO1
          go_wp2
          go_ret
          obtain ⟨w5, hw5⟩ : ∃ x, x = ((w4.setCell ⟨R, 2, none⟩ (.slice none 0 0)).setCell ⟨R, 3, none⟩ (.bool true)).setCell ⟨R, 4, none⟩ (.int .i64 0) := ⟨_, rfl⟩
          rw [← hw5]
          have C5 : Chg (fun b => b = R) w4 w5 := by rw [hw5]; exact ((Chg.setCell (F := fun b => b = R) w4 rfl 2 _).trans (Chg.setCell (F := fun b => b = R) _ rfl 3 _)).trans (Chg.setCell (F := fun b => b = R) _ rfl 4 _)
          have B5 : Blk w5 R 60 (RC (.slice a1 L cp1) vs (.slice none 0 0) true 0 vk m.torn) := by
            have := ((HB4.out.set 2 (.slice none 0 0)).set 3 (.bool true)).set 4 (.int .i64 0)
            rw [← hw5] at this
            exact this
          have C15 : Chg (fun b => b = R) w1 w5 := C4.out.trans C5
          obtain ⟨n1, n2, n3, n4⟩ := A1.out.nR
          have hsz : W0.heap.size ≤ w1.heap.size := C1.out.size
          refine ⟨rfl, .slice a1 L cp1, ?_, fun b hb => Nat.le_trans hsz (HNB.out b hb), ?_⟩
          · have hE : Pd.crash m l t = { m with now := S, safe := S, dirty := [], off := true, armed := 0 } := by unfold Pd.crash; rw [← HSE.out]
            rw [hE]
            refine ⟨B5, ownB_chg O4.out C5 (fun b hb e => by have h2 := HNB.out b hb; have h3 := A1.out.blk.lt; omega), ownB_chg A1.out.safe C15 n2, OwnN_nil _, A1.out.keep.chg C15 n4, A1.out.kw, fun b hb hb' => ?_, fun b hb => (by cases hb), Nat.zero_le _⟩
            have h2 := HNB.out b hb
            have h3 := ownB_lt A1.out.safe hb'
            omega
          · exact (C1.out.mono (fun b _ e => Or.inr e)).trans (C15.mono (fun b _ e => Or.inl e))
end Go.Proofs.Ytnkcjhfdmnpckaa
