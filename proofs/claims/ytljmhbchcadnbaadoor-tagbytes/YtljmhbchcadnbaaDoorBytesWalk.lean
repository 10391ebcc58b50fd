/-
  indenturelaw04.TagBytes: the walk.
-/
import Derived.Test.YtljmhbchcadnbaaDoorTag3
import Derived.Test.YtljmhbchcadnbaaDoorArgs
namespace Go.Proofs.YtljmhbchcadnbaaDoor
open Go.RowKit
set_option maxHeartbeats 1000000 in
set_option maxRecDepth 100000 in
theorem tagBytes_any (t : UInt8) (v : Value) (L : List (List UInt8)) (w : World) (hT : Tabs w) (hv : RdR w v L) (hfit : ∀ l ∈ L, l.length ≤ 140737488351232) :
    Calls Tryd.prog 4 #[.int .u8 (t.toNat : Int), v] w fun e w' => e = .returned (.bool true) ∧ Below w.heap.size w w' := by
  have HT : Hid (Tabs w) := hT
  have HV : Hid (RdR w v L) := hv
  have HFit : Hid _ := hfit
  obtain ⟨a, cap, rfl, hrow⟩ := hv
  have HROW : Hid _ := hrow
  clear hrow hT hfit
  by_cases hbig : 40 < L.length
  · have q1 : (40 : Int) < (L.length : Int) := by omega
    go_enter Tryd.func4, Tryd.ntmps4
    go_wp2_with fail
    refine (lives_any w HT.out).mono ?_
    rintro e w1 ⟨rfl, hb1⟩
    go_wp2
    go_ret
    exact ⟨rfl, hb1⟩
  have q1 : ¬ (40 : Int) < (L.length : Int) := by omega
  go_enter Tryd.func4, Tryd.ntmps4
  go_wp2_with fail
  go_loopg [5, 15] (L.length + 1) (fun g y z wr => wr = w ∧ ∃ i : Nat, i ≤ L.length ∧ g + i = L.length + 1 ∧ z = .int .i64 i ∧ ∃ n : Nat, y = .int .i64 n ∧ n ≤ 2000 ∧ Hid (n = (L.take i).flatten.length))
  case atStart => exact ⟨rfl, 0, by omega, by omega, rfl, 0, rfl, by omega, rfl⟩
  case round =>
    obtain ⟨hwr, i, hi, hgk, rfl, n, rfl, hn, HNn⟩ := hrel
    have hwr' := hwr.symm
    clear hwr
    subst hwr'
    by_cases hlt : i < L.length
    · have q3 : (i : Int) < (L.length : Int) := by omega
      obtain ⟨b, off, rfl, hbl, hc⟩ := HROW.out (by omega)
      obtain ⟨r, hr1, hr2⟩ := hc i hlt
      have HFL : Hid _ := flat_take L i hlt
      have hfi := HFit.out L[i] (List.getElem_mem hlt)
      generalize L[i] = x at *
      obtain ⟨ax, capx, rfl, -, -⟩ := hr2
      clear hc
      by_cases hx : 2000 < n + x.length
      · have q4 : (2000 : Int) < (n : Int) + (x.length : Int) := by omega
        go_wp2_with fail
        refine (lives_any w HT.out).mono ?_
        rintro e w2 ⟨rfl, hb2⟩
        go_wp2
        try rw [Exit.noGoto_ret]
        go_ret
        exact ⟨rfl, hb2⟩
      · have q4 : ¬ (2000 : Int) < (n : Int) + (x.length : Int) := by omega
        go_wp2
        go_roundg (gk - 1)
        case measure => omega
        case rel => exact ⟨rfl, i + 1, by omega, by omega, by go_num, n + x.length, by go_num, by omega, (show _ = _ by rw [HFL.out, List.length_append]; have := HNn.out; omega)⟩
    · obtain rfl : i = L.length := by omega
      have q3 : ¬ (L.length : Int) < (L.length : Int) := by omega
      have hfl : L.flatten.length ≤ 2000 := by have := HNn.out; rw [List.take_length] at this; omega
      have HM1 : Hid (n = L.flatten.length) := (show _ = _ by have := HNn.out; rwa [List.take_length] at this)
      clear HNn
      go_wp2_with fail
      refine (bytes_any t _ L w HV.out (by omega) (by omega)).mono ?_
      rintro e w1 ⟨v1, rfl, ho1, hb1⟩
      obtain ⟨m, HM⟩ : ∃ m, Hid (t :: L.flatten = m) := ⟨_, rfl⟩
      rw [HM.out] at ho1
      have hm1 : m.length = n + 1 := by rw [← HM.out, List.length_cons, HM1.out]
      have HM2 : Hid (m.length = n + 1) := hm1
      obtain ⟨g, cap1, rfl, hcap⟩ := ho1.some (by omega)
      have hgl : g < w1.heap.size := by
        obtain ⟨_, _, e, _, _, _, h4⟩ := ho1.rd
        obtain ⟨b, off, e', hlt, _⟩ := h4 (by omega)
        simp only [Value.slice.injEq] at e
        rw [← e.1] at e'
        simp only [Option.some.injEq, Addr.mk.injEq] at e'
        omega
      have hcell : w1.cell? ⟨g, 0, none⟩ = some (.int .u8 (t.toNat : Int)) := by
        have := World.ownsRow.cells ho1 (g := g) rfl 0 (.int .u8 (t.toNat : Int)) (by rw [← HM.out]; rfl)
        simpa [Addr.add_lit] using this
      have O1 := ho1
      have HT1 : Tabs w1 := HT.out.gr hb1
      have R1 := HV.out.kept hb1
      have hwrap : IntKind.i64.wrap ((n : Int) + 1) = ((n + 1 : Nat) : Int) := (IntWalk.i64_in _ (by omega)).trans (by omega)
      have hne : Hid (m ≠ []) := (show _ ≠ _ by intro h; rw [h] at hm1; simp at hm1)
      clear ho1 hm1
      go_upto_region 12 with fail
      refine wp_region_inv Tryd.mixed (KS (fun i => match i with | 0 | 8 | 15 => .val (.slice (some ⟨g, 0, none⟩) m.length cap1) | 1 => .val (.string ⟨m.toArray⟩) | 2 | 17 | 18 => .val (.int .u8 (t.toNat : Int)) | 3 => .rows (L) | 4 => .rd (m) | 5 => .val (.string ⟨(m).toArray⟩) | 6 | 7 | 12 | 13 | 14 | 19 | 20 | 21 | 22 | 23 | 24 => .val (.bool true) | 9 | 11 => .val (.int .i64 (m.length : Int)) | 10 => .val (.int .i64 (n : Int)) | 16 => .val (.pointer (some ⟨g, 0, none⟩)) | _ => .free)) 54 rfl (by decide +kernel) (KS_mono _) ?_ ?_
      · refine AllFrom.cons (fun a' w' hg hk hd => ?_) (AllFrom.cons (fun a' w' hg hk hd => ?_) (AllFrom.cons (fun a' w' hg hk hd => ?_) (AllFrom.cons (fun a' w' hg hk hd => ?_) (AllFrom.cons (fun a' w' hg hk hd => ?_) (AllFrom.cons (fun a' w' hg hk hd => ?_) (AllFrom.cons (fun a' w' hg hk hd => ?_) (AllFrom.cons (fun a' w' hg hk hd => ?_) (AllFrom.cons (fun a' w' hg hk hd => ?_) (AllFrom.cons (fun a' w' hg hk hd => ?_) (AllFrom.cons (fun a' w' hg hk hd => ?_) (AllFrom.cons (fun a' w' hg hk hd => ?_) (AllFrom.cons (fun a' w' hg hk hd => ?_) (AllFrom.cons (fun a' w' hg hk hd => ?_) (AllFrom.cons (fun a' w' hg hk hd => ?_) (AllFrom.cons (fun a' w' hg hk hd => ?_) (AllFrom.cons (fun a' w' hg hk hd => ?_) (AllFrom.cons (fun a' w' hg hk hd => ?_) (AllFrom.cons (fun a' w' hg hk hd => ?_) (AllFrom.cons (fun a' w' hg hk hd => ?_) (AllFrom.cons (fun a' w' hg hk hd => ?_) (AllFrom.cons (fun a' w' hg hk hd => ?_) (AllFrom.cons (fun a' w' hg hk hd => ?_) (AllFrom.cons (fun a' w' hg hk hd => ?_) (AllFrom.cons (fun a' w' hg hk hd => ?_) AllFrom.nil))))))))))))))))))))))))
        · -- 0: Op.move (Operand.tmp 8)
          intro Q
          have e8 : a'.eval (.tmp 8) = .slice (some ⟨g, 0, none⟩) m.length cap1 := hk.at 8 (by decide +kernel)
          exact wp_value _ (by simp only [execOp, e8]; rfl) (KS_mkv rfl rfl)
        · -- 1: Op.convert 22 9 (Operand.tmp 30)
          intro Q
          have e30 : a'.eval (.tmp 30) = .slice (some ⟨g, 0, none⟩) m.length cap1 := KS_val (hd.val 0 30 (by decide +kernel)) rfl
          exact wp_value _ (by simp only [execOp, e30, (O1.rd.kept hg).conv (P := Tryd.prog) 22 9 Tryd.underlying22 Tryd.underlying5 Tryd.underlying9, Sem.run_bind, Result.andThen_ok]; rfl) (KS_mkv rfl rfl)
        · -- 2: Op.move (Operand.tmp 0)
          intro Q
          have e0 : a'.eval (.tmp 0) = .int .u8 (t.toNat : Int) := hk.at 0 (by decide +kernel)
          exact wp_value _ (by simp only [execOp, e0]; rfl) (KS_mkv rfl rfl)
        · -- 3: Op.move (Operand.tmp 1)
          intro Q
          have r1 : RdR w' (a'.eval (.tmp 1)) (L) := by rw [hk.at 1 (by decide +kernel)]; exact RdR.kept (R1) hg
          exact wp_value (a'.eval (.tmp 1)) (by simp only [execOp]; rfl) (KS_mkR rfl r1)
        · -- 4: Op.call ( callee := Callee.value (Operand.func 26), args := #[Operand.
          intro Q
          have e32 : a'.eval (.tmp 32) = .int .u8 (t.toNat : Int) := KS_val (hd.val 2 32 (by decide +kernel)) rfl
          have r33 : RdR w' (a'.eval (.tmp 33)) (L) := KS_rows (hd.val 3 33 (by decide +kernel)) rfl
          refine wp_call 26 _ (run_enter 26 _ _ rfl (by kernel_rfl)) ?_
          simp only [List.map_toArray, List.map_nil, List.map_cons, e32]
          refine (refBytes_any t _ L _ r33 (by omega) (by omega)).mono ?_
          rw [HM.out]
          rintro e w5 ⟨v5, rfl, ho5, hb5⟩
          exact ⟨v5, rfl, KS_mkr rfl ho5.rd, hb5⟩
        · -- 5: Op.convert 22 9 (Operand.tmp 34)
          intro Q
          have r34 : Rd w' (a'.eval (.tmp 34)) (m) := KS_rd (hd.val 4 34 (by decide +kernel)) rfl
          exact wp_value _ (by simp only [execOp, r34.conv (P := Tryd.prog) 22 9 Tryd.underlying22 Tryd.underlying5 Tryd.underlying9, Sem.run_bind, Result.andThen_ok]; rfl) (KS_mkv rfl rfl)
        · -- 6: Op.binOp BinOp.eql 9 (Operand.tmp 31) (Operand.tmp 35) 9
          intro Q
          have e31 : a'.eval (.tmp 31) = .string ⟨m.toArray⟩ := KS_val (hd.val 1 31 (by decide +kernel)) rfl
          have e35 : a'.eval (.tmp 35) = .string ⟨(m).toArray⟩ := KS_val (hd.val 5 35 (by decide +kernel)) rfl
          clear hd hk
          exact wp_value (.bool true) (by simp only [execOp, e31, e35]; go_simp) (KS_mkv rfl rfl)
        · -- 7: Op.move (Operand.tmp 36)
          intro Q
          have e36 : a'.eval (.tmp 36) = .bool true := KS_val (hd.val 6 36 (by decide +kernel)) rfl
          exact wp_value _ (by simp only [execOp, e36]; rfl) (KS_mkv rfl rfl)
        · -- 8: Op.move (Operand.tmp 8)
          have eg : a'.eval (.tmp 37) = .bool true := KS_val (hd.val 7 37 (by decide +kernel)) rfl
          refine ⟨37, true, rfl, eg, fun _ Q => ?_, fun h => absurd rfl h⟩
          have e8 : a'.eval (.tmp 8) = .slice (some ⟨g, 0, none⟩) m.length cap1 := hk.at 8 (by decide +kernel)
          exact wp_value _ (by simp only [execOp, e8]; rfl) (KS_mkv rfl rfl)
        · -- 9: Op.call ( callee := Callee.builtin Builtin.len, args := #[Operand.tmp 
          have eg : a'.eval (.tmp 37) = .bool true := KS_val (hd.val 7 37 (by decide +kernel)) rfl
          refine ⟨37, true, rfl, eg, fun _ Q => ?_, fun h => absurd rfl h⟩
          have e38 : a'.eval (.tmp 38) = .slice (some ⟨g, 0, none⟩) m.length cap1 := KS_val (hd.val 8 38 (by decide +kernel)) rfl
          clear hd hk
          exact wp_value (.int .i64 (m.length : Int)) (by simp only [execOp, resolve, invoke, builtin, Sem.run_bind, Sem.run_pure, Result.andThen_ok, List.map_toArray, List.map_cons, List.map_nil, e38]; go_simp) (KS_mkv rfl rfl)
        · -- 10: Op.move (Operand.tmp 5)
          have eg : a'.eval (.tmp 37) = .bool true := KS_val (hd.val 7 37 (by decide +kernel)) rfl
          refine ⟨37, true, rfl, eg, fun _ Q => ?_, fun h => absurd rfl h⟩
          have e5 : a'.eval (.tmp 5) = .int .i64 (n : Int) := hk.at 5 (by decide +kernel)
          exact wp_value _ (by simp only [execOp, e5]; rfl) (KS_mkv rfl rfl)
        · -- 11: Op.binOp BinOp.add 3 (Operand.tmp 40) (Operand.const (Value.int IntKin
          have eg : a'.eval (.tmp 37) = .bool true := KS_val (hd.val 7 37 (by decide +kernel)) rfl
          refine ⟨37, true, rfl, eg, fun _ Q => ?_, fun h => absurd rfl h⟩
          have e40 : a'.eval (.tmp 40) = .int .i64 (n : Int) := KS_val (hd.val 10 40 (by decide +kernel)) rfl
          clear hd hk
          exact wp_value (.int .i64 (m.length : Int)) (by simp only [execOp, e40, HM2.out]; go_simp) (KS_mkv rfl rfl)
        · -- 12: Op.binOp BinOp.eql 3 (Operand.tmp 39) (Operand.tmp 41) 3
          have eg : a'.eval (.tmp 37) = .bool true := KS_val (hd.val 7 37 (by decide +kernel)) rfl
          refine ⟨37, true, rfl, eg, fun _ Q => ?_, fun h => absurd rfl h⟩
          have e39 : a'.eval (.tmp 39) = .int .i64 (m.length : Int) := KS_val (hd.val 9 39 (by decide +kernel)) rfl
          have e41 : a'.eval (.tmp 41) = .int .i64 (m.length : Int) := KS_val (hd.val 11 41 (by decide +kernel)) rfl
          clear hd hk
          exact wp_value (.bool true) (by simp only [execOp, e39, e41]; go_simp) (KS_mkv rfl rfl)
        · -- 13: Op.pick (Operand.tmp 37) (Operand.tmp 42) (Operand.const (Value.bool f
          intro Q
          have e37 : a'.eval (.tmp 37) = .bool true := KS_val (hd.val 7 37 (by decide +kernel)) rfl
          have e42 : a'.eval (.tmp 42) = .bool true := KS_val (hd.val 12 42 (by decide +kernel)) rfl
          clear hd hk
          exact wp_value (.bool true) (by simp only [execOp, e37, e42]; go_simp) (KS_mkv rfl rfl)
        · -- 14: Op.move (Operand.tmp 43)
          intro Q
          have e43 : a'.eval (.tmp 43) = .bool true := KS_val (hd.val 13 43 (by decide +kernel)) rfl
          exact wp_value _ (by simp only [execOp, e43]; rfl) (KS_mkv rfl rfl)
        · -- 15: Op.move (Operand.tmp 8)
          have eg : a'.eval (.tmp 44) = .bool true := KS_val (hd.val 14 44 (by decide +kernel)) rfl
          refine ⟨44, true, rfl, eg, fun _ Q => ?_, fun h => absurd rfl h⟩
          have e8 : a'.eval (.tmp 8) = .slice (some ⟨g, 0, none⟩) m.length cap1 := hk.at 8 (by decide +kernel)
          exact wp_value _ (by simp only [execOp, e8]; rfl) (KS_mkv rfl rfl)
        · -- 16: Op.indexAddr 22 (Operand.tmp 45) (Operand.const (Value.int IntKind.i64
          have eg : a'.eval (.tmp 44) = .bool true := KS_val (hd.val 14 44 (by decide +kernel)) rfl
          refine ⟨44, true, rfl, eg, fun _ Q => ?_, fun h => absurd rfl h⟩
          have e45 : a'.eval (.tmp 45) = .slice (some ⟨g, 0, none⟩) m.length cap1 := KS_val (hd.val 15 45 (by decide +kernel)) rfl
          clear hd hk
          exact wp_value (.pointer (some ⟨g, 0, none⟩)) (by simp only [execOp, e45]; go_simp; intro h; exact absurd h hne.out) (KS_mkv rfl rfl)
        · -- 17: Op.load 5 (Operand.tmp 46)
          have eg : a'.eval (.tmp 44) = .bool true := KS_val (hd.val 14 44 (by decide +kernel)) rfl
          refine ⟨44, true, rfl, eg, fun _ Q => ?_, fun h => absurd rfl h⟩
          have e46 : a'.eval (.tmp 46) = .pointer (some ⟨g, 0, none⟩) := KS_val (hd.val 16 46 (by decide +kernel)) rfl
          have hc : w'.cell? ⟨g, 0, none⟩ = some (.int .u8 (t.toNat : Int)) := (Below.cell hg (p := ⟨g, 0, none⟩) hgl).trans hcell
          clear hd hk
          exact wp_value (.int .u8 (t.toNat : Int)) (by simp only [execOp, e46]; go_simp) (KS_mkv rfl rfl)
        · -- 18: Op.move (Operand.tmp 0)
          have eg : a'.eval (.tmp 44) = .bool true := KS_val (hd.val 14 44 (by decide +kernel)) rfl
          refine ⟨44, true, rfl, eg, fun _ Q => ?_, fun h => absurd rfl h⟩
          have e0 : a'.eval (.tmp 0) = .int .u8 (t.toNat : Int) := hk.at 0 (by decide +kernel)
          exact wp_value _ (by simp only [execOp, e0]; rfl) (KS_mkv rfl rfl)
        · -- 19: Op.binOp BinOp.eql 5 (Operand.tmp 47) (Operand.tmp 48) 5
          have eg : a'.eval (.tmp 44) = .bool true := KS_val (hd.val 14 44 (by decide +kernel)) rfl
          refine ⟨44, true, rfl, eg, fun _ Q => ?_, fun h => absurd rfl h⟩
          have e47 : a'.eval (.tmp 47) = .int .u8 (t.toNat : Int) := KS_val (hd.val 17 47 (by decide +kernel)) rfl
          have e48 : a'.eval (.tmp 48) = .int .u8 (t.toNat : Int) := KS_val (hd.val 18 48 (by decide +kernel)) rfl
          clear hd hk
          exact wp_value (.bool true) (by simp only [execOp, e47, e48]; go_simp) (KS_mkv rfl rfl)
        · -- 20: Op.pick (Operand.tmp 44) (Operand.tmp 49) (Operand.const (Value.bool f
          intro Q
          have e44 : a'.eval (.tmp 44) = .bool true := KS_val (hd.val 14 44 (by decide +kernel)) rfl
          have e49 : a'.eval (.tmp 49) = .bool true := KS_val (hd.val 19 49 (by decide +kernel)) rfl
          clear hd hk
          exact wp_value (.bool true) (by simp only [execOp, e44, e49]; go_simp) (KS_mkv rfl rfl)
        · -- 21: Op.move (Operand.tmp 50)
          intro Q
          have e50 : a'.eval (.tmp 50) = .bool true := KS_val (hd.val 20 50 (by decide +kernel)) rfl
          exact wp_value _ (by simp only [execOp, e50]; rfl) (KS_mkv rfl rfl)
        · -- 22: Op.call ( callee := Callee.value (Operand.func 8), args := #[], argTyp
          have eg : a'.eval (.tmp 51) = .bool true := KS_val (hd.val 21 51 (by decide +kernel)) rfl
          refine ⟨51, true, rfl, eg, fun _ Q => ?_, fun h => absurd rfl h⟩
          refine wp_call 8 _ (run_enter 8 _ _ rfl (by kernel_rfl)) ?_
          simp only [List.map_toArray, List.map_nil]
          refine (lives_any _ (HT1.gr hg)).mono ?_
          rintro e w5 ⟨rfl, hb5⟩
          exact ⟨_, rfl, KS_mkv rfl rfl, hb5⟩
        · -- 23: Op.pick (Operand.tmp 51) (Operand.tmp 52) (Operand.const (Value.bool f
          intro Q
          have e51 : a'.eval (.tmp 51) = .bool true := KS_val (hd.val 21 51 (by decide +kernel)) rfl
          have e52 : a'.eval (.tmp 52) = .bool true := KS_val (hd.val 22 52 (by decide +kernel)) rfl
          clear hd hk
          exact wp_value (.bool true) (by simp only [execOp, e51, e52]; go_simp) (KS_mkv rfl rfl)
        · -- 24: Op.assign (Operand.tmp 53)
          intro Q
          have e53 : a'.eval (.tmp 53) = .bool true := KS_val (hd.val 23 53 (by decide +kernel)) rfl
          exact wp_value _ (by simp only [execOp, e53]; rfl) (KS_mkv rfl rfl)
      · intro a' w' hsz hdf hk hall hg
        have ev : a'.eval (.tmp 4) = .bool true := KS_val (hall 24 _ 4 rfl rfl) rfl
        go_wp2
        exact bodyPost_ret (results_tmp Tryd.results4 _ _ _) hdf ⟨congrArg Ending.returned ev, hb1.trans (Below.mono hg hb1.size)⟩
theorem tagBytes_int (z : Int) (hz : (Lit.int .u8 z).wf = true) (v : Value) (L : List (List UInt8)) (w : World) (hT : Tabs w) (hv : RdR w v L) (hfit : ∀ l ∈ L, l.length ≤ 140737488351232) :
    Calls Tryd.prog 4 #[.int .u8 z, v] w fun e w' => e = .returned (.bool true) ∧ Below w.heap.size w w' := by
  have hb := bounds_u8 hz
  have := tagBytes_any (UInt8.ofNat z.toNat) v L w hT hv hfit
  rwa [show ((UInt8.ofNat z.toNat).toNat : Int) = z by simp; omega] at this
end Go.Proofs.YtljmhbchcadnbaaDoor
