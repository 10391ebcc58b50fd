/-
  indentureref01.GetNum: what the call does.
-/
import Derived.Test.YtmicmbjbclkbjaaGet
import Derived.Test.YtmicmbjbclkbjaaPlain2
namespace Go.Proofs.Ytmicmbjbclkbjaa
open Go.RowKit

theorem shl_add (N y : Nat) (hN : N < 72057594037927936) (hy : y < 256) : IntKind.u64.wrap (IntKind.u64.wrap ((N : Int) * 256) + (y : Int)) = ((N * 256 + y : Nat) : Int) := by
  rw [IntKind.wrap_u64, IntKind.wrap_u64]
  omega

set_option maxRecDepth 100000 in
set_option maxHeartbeats 400000 in
theorem refGetNum_any (v : Value) (l : List UInt8) (w : World) (h : Rd w v l) (hl : l.length ≤ 140737488300000) :
    Calls Try.prog 47 #[v] w fun e w' => e = .returned (.tuple #[.int .u64 (gn l).1, .int .i64 (gn l).2.1, .bool (gn l).2.2]) ∧ Below w.heap.size w w' := by
  have h0 := h
  obtain ⟨a, cap, rfl, h1, h2, h3, h4⟩ := h
  cases l with
  | nil =>
    go_enter Try.func47, Try.ntmps47
    go_wp2
    go_ret3
    exact ⟨rfl, Below.refl _ _⟩
  | cons x r =>
    obtain ⟨b, off, rfl, hlt, hc⟩ := h4 (by simp)
    clear h4 h3
    have hc0 : w.cell? ⟨b, off, none⟩ = some (.int .u8 (x.toNat : Int)) := hc 0 _ rfl
    have hxlt := x.toNat_lt
    have hlen : (0 : Int) < ((x :: r).length : Int) := by simp
    by_cases hx : x.toNat < 248
    · have hx' : (x.toNat : Int) < 248 := by omega
      have HG : Hid (gn (x :: r) = (x.toNat, 1, true)) := (show _ = _ by simp [gn, hx])
      go_enter Try.func47, Try.ntmps47
      go_wp2
      go_ret3
      exact ⟨by rw [HG.out]; rfl, Below.refl _ _⟩
    · have hx' : ¬ (x.toNat : Int) < 248 := by omega
      obtain ⟨k, hk⟩ : ∃ k, x.toNat = 247 + k := ⟨x.toNat - 247, by omega⟩
      have hk1 : 1 ≤ k := by omega
      have hk8 : k ≤ 8 := by omega
      by_cases hr : r.length < k
      · have HG : Hid (gn (x :: r) = (0, 0, false)) := (show _ = _ by simp only [gn]; rw [if_neg hx, if_pos (by omega)])
        have hr' : (r.length : Int) < k := by omega
        rw [hk] at hc0
        clear hx hx' hlen
        simp only [List.length_cons] at h1 hl
        have HK : Hid (x.toNat = 247 + k) := hk
        clear hk hxlt
        go_enter Try.func47, Try.ntmps47
        go_wp2
        go_ret3
        exact ⟨by rw [HG.out]; rfl, Below.refl _ _⟩
      · have hr' : ¬ (r.length : Int) < k := by omega
        rw [hk] at hc0
        clear hx hx' hlen
        simp only [List.length_cons] at h1 hl
        have hcap : ¬ cap = 1 := by omega
        have hcap2 : (k : Int) + 1 ≤ cap := by omega
        have HX : Hid (x.toNat = 247 + k) := hk
        clear hk hxlt
        obtain ⟨d, HD⟩ : ∃ d, Hid (d = r.take k) := ⟨_, rfl⟩
        have hdl : Hid (d.length = k) := (show _ = _ by rw [HD.out]; simp; omega)
        have hdc : Hid (∀ i (hi : i < d.length), w.cell? ⟨b, off + 1 + i, none⟩ = some (.int .u8 (d[i].toNat : Int))) := (show ∀ i (hi : i < d.length), _ from fun i hi => by
          have e := hc (i + 1) (.int .u8 (d[i].toNat : Int)) (by
            have := HD.out; subst this
            simp [By, take_get r k i hi])
          rw [show off + 1 + i = off + (i + 1) from by omega]
          exact e)
        clear hc
        have hd0 : 0 < d.length := by have := hdl.out; omega
        have hc1 := hdc.out 0 hd0
        have hcap3 : ((k : Int) + 1 ≤ cap) := by omega
        have hlen1 : (1 : Int) < (r.length : Int) + 1 := by omega
        by_cases hy0 : d[0].toNat = 0
        · have HG : Hid (gn (x :: r) = (0, 0, false)) := (show _ = _ by
            rw [gn_long HX.out hk1 hr HD.out rfl, if_neg]
            rw [enc_iff HX.out hk1 hk8 hdl.out rfl]
            intro hh
            apply hh.1
            rw [List.head?_eq_getElem?, List.getElem?_eq_getElem hd0]
            congr 1
            exact UInt8.toNat_inj.1 (by simpa using hy0))
          rw [hy0] at hc1
          clear hy0
          go_enter Try.func47, Try.ntmps47
          go_wp2
          go_ret3
          exact ⟨by rw [HG.out]; rfl, Below.refl _ _⟩
        · have hy1 : ((d[0].toNat : Int) == 0) = false := by simp; omega
          have HY : Hid (d.head? ≠ some 0) := (show _ ≠ _ by
            rw [List.head?_eq_getElem?, List.getElem?_eq_getElem hd0]
            intro e
            simp only [Option.some.injEq] at e
            apply hy0
            rw [e]; rfl)
          clear hy0
          generalize hq : d[0].toNat = q at *
          clear hq
          go_enter Try.func47, Try.ntmps47
          go_wp2
          go_loop [6, 41] (fun y z => ∃ i : Nat, i ≤ k ∧ z = .int .i64 i ∧ y = .int .u64 (val (d.take i))) (fun _ z => k - (intOf z).toNat)
          case atStart => exact ⟨0, Nat.zero_le _, rfl, rfl⟩
          case round =>
            obtain ⟨i, hi, rfl, rfl⟩ := hrel
            by_cases hlt2 : i < k
            · have hdi : i < d.length := by have := hdl.out; omega
              have hN : Hid (val (d.take i) < 72057594037927936) := val_bound (l := d.take i) (by simp; omega)
              have hcell := hdc.out i hdi
              have HV : Hid (val (d.take (i + 1)) = val (d.take i) * 256 + d[i].toNat) := val_take d i hdi
              generalize val (d.take i) = N at *
              have hy : d[i].toNat < 256 := d[i].toNat_lt
              generalize d[i].toNat = y at *
              go_wp2
              go_round
              case rel => exact ⟨i + 1, by omega, by go_num, by rw [HV.out, shl_add N y hN.out hy]⟩
              case measure => simp [intOf]; omega
            · obtain rfl : i = k := by omega
              have ht : d.take i = d := List.take_of_length_le (by rw [hdl.out]; omega)
              rw [ht]
              clear ht
              generalize hn : val d = n at *
              have HN : Hid (val d = n) := hn
              clear hn
              have hiff := enc_iff HX.out hk1 hk8 hdl.out HN.out
              have hgl := gn_long HX.out hk1 hr HD.out HN.out
              by_cases h248 : n < 248
              · have HG : Hid (gn (x :: r) = (0, 0, false)) := (show _ = _ by rw [hgl, if_neg]; rw [hiff]; omega)
                have h248' : (n : Int) < 248 := by omega
                clear hiff hgl
                go_wp2
                go_ret3
                exact ⟨by rw [HG.out]; rfl, Below.refl _ _⟩
              · have HG : Hid (gn (x :: r) = (n, i + 1, true)) := (show _ = _ by rw [hgl, if_pos]; rw [hiff]; exact ⟨HY.out, by omega⟩)
                have h248' : ¬ (n : Int) < 248 := by omega
                clear hiff hgl
                go_wp2
                go_ret3
                refine ⟨?_, Below.refl _ _⟩
                rw [HG.out]
                exact ret3 rfl (by show (1 + (247 + (i : Int) - 247)) = ((i + 1 : Nat) : Int); omega) rfl
#print axioms refGetNum_any
end Go.Proofs.Ytmicmbjbclkbjaa
