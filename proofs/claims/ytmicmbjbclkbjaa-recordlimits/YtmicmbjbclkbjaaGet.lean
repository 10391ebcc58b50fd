/-
  pack.GetNum, indentureref01.GetNum: what the calls do.
-/
import Derived.Test.YtmicmbjbclkbjaaRef
import Derived.Deep.QuietTactic
import Derived.BigQuiet
namespace Go.Proofs.Ytmicmbjbclkbjaa
open Go.RowKit

theorem shl_or (N y : Nat) (hN : N < 72057594037927936) (hy : y < 256) : bits .or .u64 (IntKind.u64.wrap ((N : Int) * 256)) (y : Int) = ((N * 256 + y : Nat) : Int) := by
  have e : IntKind.u64.wrap ((N : Int) * 256) = ((N * 256 : Nat) : Int) := by rw [IntKind.wrap_u64]; omega
  rw [e, bits_or_u64_nat _ _ (by omega) (by omega)]
  congr 1
  have h := Nat.two_pow_add_eq_or_of_lt (i := 8) (b := y) (by simpa using hy) N
  rw [Nat.mul_comm N 256]
  exact h.symm

theorem ret3 {a b c d : Int} {s t : Bool} (h1 : a = b) (h2 : c = d) (h3 : s = t) : Ending.returned (.tuple #[.int .u64 a, .int .i64 c, .bool s]) = .returned (.tuple #[.int .u64 b, .int .i64 d, .bool t]) := by
  rw [h1, h2, h3]

theorem val_pow8 {d : List UInt8} {k : Nat} (h : d.length = k) (hk : k ≤ 8) : Hid (val d < 256 ^ 8) := by
  refine Nat.lt_of_lt_of_le (val_lt d) ?_
  rw [h]
  exact Nat.pow_le_pow_right (by decide) hk

set_option maxRecDepth 100000 in
set_option maxHeartbeats 400000 in
theorem getNum_any (v : Value) (l : List UInt8) (w : World) (h : Rd w v l) (hl : l.length ≤ 140737488300000) :
    Calls Try.prog 34 #[v] w fun e w' => e = .returned (.tuple #[.int .u64 (gn l).1, .int .i64 (gn l).2.1, .bool (gn l).2.2]) ∧ Below w.heap.size w w' := by
  have h0 := h
  obtain ⟨a, cap, rfl, h1, h2, h3, h4⟩ := h
  cases l with
  | nil =>
    go_enter Try.func34, Try.ntmps34
    go_wp2
    go_ret3
    exact ⟨rfl, Below.refl _ _⟩
  | cons x r =>
    obtain ⟨b, off, rfl, hlt, hc⟩ := h4 (by simp)
    clear h4 h3
    have hc0 : w.cell? ⟨b, off, none⟩ = some (.int .u8 (x.toNat : Int)) := hc 0 _ rfl
    have hxlt := x.toNat_lt
    have hlen : (0 : Int) < ((x :: r).length : Int) := by simp
    by_cases hx : x.toNat < 248
    · have hx' : (x.toNat : Int) < 248 := by omega
      have HG : Hid (gn (x :: r) = (x.toNat, 1, true)) := (show _ = _ by simp [gn, hx])
      go_enter Try.func34, Try.ntmps34
      go_wp2
      go_ret3
      exact ⟨by rw [HG.out]; rfl, Below.refl _ _⟩
    · have hx' : ¬ (x.toNat : Int) < 248 := by omega
      obtain ⟨k, hk⟩ : ∃ k, x.toNat = 247 + k := ⟨x.toNat - 247, by omega⟩
      have hk1 : 1 ≤ k := by omega
      have hk8 : k ≤ 8 := by omega
      by_cases hr : r.length < k
      · have HG : Hid (gn (x :: r) = (0, 0, false)) := (show _ = _ by simp only [gn]; rw [if_neg hx, if_pos (by omega)])
        have hr' : (r.length : Int) < k := by omega
        rw [hk] at hc0
        clear hx hx' hlen
        simp only [List.length_cons] at h1 hl
        have HK : Hid (x.toNat = 247 + k) := hk
        clear hk hxlt
        go_enter Try.func34, Try.ntmps34
        go_wp2
        go_ret3
        exact ⟨by rw [HG.out]; rfl, Below.refl _ _⟩
      · have hr' : ¬ (r.length : Int) < k := by omega
        rw [hk] at hc0
        clear hx hx' hlen
        simp only [List.length_cons] at h1 hl
        have hcap : ¬ cap = 1 := by omega
        have hcap2 : (k : Int) + 1 ≤ cap := by omega
        have HX : Hid (x.toNat = 247 + k) := hk
        clear hk hxlt
        obtain ⟨d, HD⟩ : ∃ d, Hid (d = r.take k) := ⟨_, rfl⟩
        have hdl : Hid (d.length = k) := (show _ = _ by rw [HD.out]; simp; omega)
        have hdc : Hid (∀ i (hi : i < d.length), w.cell? ⟨b, off + 1 + i, none⟩ = some (.int .u8 (d[i].toNat : Int))) := (show ∀ i (hi : i < d.length), _ from fun i hi => by
          have e := hc (i + 1) (.int .u8 (d[i].toNat : Int)) (by
            have := HD.out; subst this
            simp [By, take_get r k i hi])
          rw [show off + 1 + i = off + (i + 1) from by omega]
          exact e)
        clear hc
        go_enter Try.func34, Try.ntmps34
        go_wp2
        go_loop [6, 36] (fun y z => ∃ i : Nat, i ≤ k ∧ z = .int .i64 i ∧ y = .int .u64 (val (d.take i))) (fun _ z => k - (intOf z).toNat)
        case atStart => exact ⟨0, Nat.zero_le _, rfl, rfl⟩
        case round =>
          obtain ⟨i, hi, rfl, rfl⟩ := hrel
          by_cases hlt2 : i < k
          · have hdi : i < d.length := by have := hdl.out; omega
            have hN : Hid (val (d.take i) < 72057594037927936) := val_bound (l := d.take i) (by simp; omega)
            have hcell := hdc.out i hdi
            have HV : Hid (val (d.take (i + 1)) = val (d.take i) * 256 + d[i].toNat) := val_take d i hdi
            generalize val (d.take i) = N at *
            have hy : d[i].toNat < 256 := d[i].toNat_lt
            generalize d[i].toNat = y at *
            go_wp2
            go_round
            case rel => exact ⟨i + 1, by omega, by go_num, by rw [HV.out, shl_or N y hN.out hy]⟩
            case measure => simp [intOf]; omega
          · obtain rfl : i = k := by omega
            have ht : d.take i = d := List.take_of_length_le (by rw [hdl.out]; omega)
            rw [ht]
            clear ht
            have h8 := val_pow8 hdl.out hk8
            obtain ⟨p, HK⟩ : ∃ p, Hid (9 - (enc (val d)).length = p) := ⟨_, rfl⟩
            have hel := enc_length (val d)
            have hp8 : (p : Int) ≤ 8 := by have := HK.out; omega
            have HKE : Hid (p + (enc (val d)).length = 9) := (show _ = _ by have := HK.out; omega)
            clear hel
            generalize hn : val d = n at *
            have HN : Hid (val d = n) := hn
            clear hn
            go_wp2_with fail
            refine (cut_k n p _ h8 HK).mono ?_
            rintro e w1 ⟨rfl, hb1⟩
            have hsl := sliceDigits w1.heap.size p (by omega)
            go_wp2_with (first
              | (refine wpList_store_newS rfl 83 (.tmp 9) (.tmp 49) rfl w1.heap.size (By (arr n)).toArray rfl rfl 83 (By (List.replicate 9 0)).toArray (heap_alloc_new w1 _) (by rw [Try.sizeDigits]; simp [By_length, arr_length]) (by simp [By_length, arr_length]) (By_all _) w1.heap.size w1 ((Below.refl _ _).alloc (Nat.le_refl _) _) (Nat.le_refl _) ?_; intro W HGW hbW))
            have hq1 := rd_arr HKE HGW.out
            have hq2 := (h0.kept (hb1.trans (hbW.mono hb1.size))).take (1 + (247 + i) - 247) (by simp; omega)
            have hcap0 : ¬ cap = 0 := by omega
            have e2 : (x :: r).take (1 + (247 + i) - 247) = x :: d := by
              rw [HD.out, show 1 + (247 + i) - 247 = i + 1 from by omega]
              rfl
            rw [e2] at hq2
            clear e2 h0
            by_cases hE : enc n = x :: d
            · have hE' : (enc n == x :: d) = true := by simp [hE]
              have HG : Hid (gn (x :: r) = (n, i + 1, true)) := (show _ = _ by rw [gn_long HX.out hk1 hr HD.out HN.out, if_pos hE])
              clear hE
              go_quiet ((go_at_call 57; exact Calls.quiet_of_same (equal_any _ _ _ _ _ (hq1.kept (below_drewN _ _ _)) (hq2.kept (below_drewN _ _ _)))))
              go_wp2
              go_ret3
              refine ⟨?_, (hb1.trans (hbW.mono hb1.size)).trans (below_drewN _ _ _)⟩
              rw [HG.out]
              exact ret3 rfl (by show (1 + (247 + (i : Int)) - 247) = ((i + 1 : Nat) : Int); omega) rfl
            · have hE' : (enc n == x :: d) = false := by simp [hE]
              have HG : Hid (gn (x :: r) = (0, 0, false)) := (show _ = _ by rw [gn_long HX.out hk1 hr HD.out HN.out, if_neg hE])
              clear hE
              go_quiet ((go_at_call 57; exact Calls.quiet_of_same (equal_any _ _ _ _ _ (hq1.kept (below_drewN _ _ _)) (hq2.kept (below_drewN _ _ _)))))
              go_wp2
              go_ret3
              exact ⟨by rw [HG.out]; rfl, (hb1.trans (hbW.mono hb1.size)).trans (below_drewN _ _ _)⟩
#print axioms getNum_any
end Go.Proofs.Ytmicmbjbclkbjaa
