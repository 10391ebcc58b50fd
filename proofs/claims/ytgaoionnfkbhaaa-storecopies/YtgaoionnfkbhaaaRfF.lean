/-
  The reference's put: what the call does.
-/
import Derived.Test.YtgaoionnfkbhaaaRfE
namespace Go.Proofs.Ytgaoionnfkbhaaa
open Go.RowKit
set_option maxRecDepth 100000 in
set_option maxHeartbeats 4000000 in
theorem vput_any {w : World} {R : Nat} {vr : Value} {rs : List RK} {ch : ByteArray → List Ver} {la fl : Int} (h : RS0 w R vr rs ch la fl) (hN : rs.length ≤ 1000000) (p : Pr) (m : Int) (hp : putOk (ch p.1) (verOf m p) = true) (hl : (ch p.1).length ≤ 1000000) :
    Calls Try.prog 45 #[.pointer (some ⟨R, 0, none⟩), .agg (PC p).toArray, .int .i64 m] w fun e w' => e = .returned (.tuple #[]) ∧ ∃ vr' rs', RS0 w' R vr' rs' (add1 ch m p) la fl ∧ Chg (fun b => b = R ∨ vr.ownBlock = some b) w w' ∧ (∀ b, RB R vr' rs' b → RB R vr rs b ∨ w.heap.size ≤ b) ∧ rs'.length ≤ rs.length + 1 ∧ (∀ b, vr'.ownBlock = some b → vr.ownBlock = some b ∨ w.heap.size ≤ b) := by
  have HS := hide h
  obtain ⟨a, cp, rfl⟩ := h.own.rd.slice
  have hcp : rs.length ≤ cp := h.own.rd.cap
  clear h
  have HP := hide hp
  clear hp
  obtain ⟨n_, HN⟩ : ∃ n, Hid (rs.length = n) := ⟨_, rfl⟩
  rw [HN.out] at HS hN hcp
  have L1 := hide ((Below.refl w.heap.size w).alloc (Nat.le_refl _) (.cells (PC p).toArray 49 (0, 0)))
  have B1 := hide (Blk.new w 49 (PC p))
  obtain ⟨i0, HI0⟩ : ∃ n, Hid (lb (rs.map (·.1)) p.1 = n) := ⟨_, rfl⟩
  have hi0 : i0 ≤ n_ := by have := lb_le (rs.map (·.1)) p.1; rw [List.length_map, HN.out, HI0.out] at this; exact this
  have HLT : Hid (∀ i (hi : i < rs.length), lt rs[i].1 p.1 = decide (i < i0)) := (show ∀ i (hi : i < rs.length), _ from fun i hi => by
    have := lb_at HS.out.srt (t := p.1) (i := i) (by simpa using hi)
    rw [HI0.out, List.getElem_map] at this
    exact this)
  rw [HN.out]
  go_enter Try.func45, Try.ntmps45
  go_wp2_with fail
  obtain ⟨E, HE⟩ : ∃ E, Hid (w.heap.size = E) := ⟨_, rfl⟩
  obtain ⟨w1, hw1⟩ : ∃ x, x = w.alloc (.cells (PC p).toArray 49 (0, 0)) := ⟨_, rfl⟩
  rw [← hw1] at L1 B1 ⊢
  rw [HE.out] at B1 ⊢
  clear hw1
  go_loopg [6] i0 (fun g x wr => ∃ (i : Nat), g + i = i0 ∧ x = .int .i64 (i : Int) ∧ Hid (Below w.heap.size w wr) ∧ Hid (Blk wr E 49 (PC p)))
  case atStart => exact ⟨0, by omega, rfl, L1, B1⟩
  case round =>
    obtain ⟨i, hgi, rfl, LR, BR⟩ := hrel
    have k0 := cell_regrown ((HS.out.d.kept LR.out).cell (j := 0) rfl)
    have kE := cell_regrown (BR.out.cell (j := 0) rfl)
    obtain ⟨ky, va, dd⟩ := p
    simp only at k0 kE HLT HI0
    by_cases hlt : i < n_
    · have q2 : decide ((i : Int) < (n_ : Int)) = true := by simp; omega
      have q2' : (i : Int) < (n_ : Int) := by omega
      have hlt' : i < rs.length := by rw [HN.out]; exact hlt
      obtain ⟨b, off, rfl, hlb4, hx⟩ := ((HS.out.own.rd.kept LR.out)).nth (by omega)
      have hr : wr.rangeAt b (off + i * 2) (RKC rs[i]) := hx i hlt'
      obtain ⟨x, HX⟩ : ∃ x, Hid (rs[i] = x) := ⟨rs[i], (show rs[i] = rs[i] from rfl)⟩
      rw [HX.out] at hr
      have kn := cell_regrown (show wr.cell? ⟨b, off + i * 2, none⟩ = some (.string x.1) from hr 0 _ rfl)
      have q3 := HLT.out i hlt'
      rw [HX.out] at q3
      have hkn : wr.cell? ⟨b, off + i * 2, none⟩ = some (.string x.1) := hr 0 _ rfl
      have hlb := hlb4
      clear hx hr hlb4
      by_cases hi : i < i0
      · have q4 : Op.bytesLess x.1.toList ky.toList = true := by show lt x.1 ky = true; rw [q3]; simpa using hi
        clear q3
        go_upto_region 2 with fail
        refine wp_region_quiet_below Try.mixed (by kernel_rfl) ?_
        repeat (go_big_quiet_step (fail))
        refine wpQuiet_nil ?_
        intro w5 hw5
        have D5 : Hid (Below wr.heap.size wr w5) := (show Below _ _ _ by obtain ⟨⟨dq, osq⟩, rfl⟩ := hw5; exact below_regrown wr dq osq)
        have L5 : Hid (Below w.heap.size w w5) := LR.out.trans (D5.out.mono LR.out.size)
        have B5 := hide (BR.out.kept D5.out)
        clear hw5 k0 kE kn
        go_wp2_with fail
        go_roundg (gk - 1)
        case measure => omega
        case rel => exact ⟨i + 1, by omega, by go_num, L5, B5⟩
      · obtain rfl : i = i0 := by omega
        have q4 : Op.bytesLess x.1.toList ky.toList = false := by show lt x.1 ky = false; rw [q3]; simp
        clear q3
        go_upto_region 2 with fail
        refine wp_region_quiet_below Try.mixed (by kernel_rfl) ?_
        repeat (go_big_quiet_step (fail))
        refine wpQuiet_nil ?_
        intro w5 hw5
        have D5 : Hid (Below wr.heap.size wr w5) := (show Below _ _ _ by obtain ⟨⟨dq, osq⟩, rfl⟩ := hw5; exact below_regrown wr dq osq)
        have L5 : Hid (Below w.heap.size w w5) := LR.out.trans (D5.out.mono LR.out.size)
        have B5 := hide (BR.out.kept D5.out)
        have k0' := cell_regrown ((HS.out.d.kept L5.out).cell (j := 0) rfl)
        have kE' := cell_regrown (B5.out.cell (j := 0) rfl)
        have kn' := cell_regrown (show w5.cell? ⟨b, off + i * 2, none⟩ = some (.string x.1) from (D5.out.cell (p := ⟨b, off + i * 2, none⟩) hlb).trans hkn)
        simp only at k0' kE'
        clear hw5 k0 kE kn hkn
        have q5 : decide ((i : Int) = (n_ : Int)) = false := by simp; omega
        have q5' : ((i : Int) == (n_ : Int)) = false := by simp; omega
        go_upto_region 4 with fail
        cases h6 : x.1.toList == ky.toList with
        | true =>
          have HK : Hid ((rs[i]'hlt').1 = ky) := (show _ = _ by rw [HX.out]; exact ba_inj.1 (by simpa using h6))
          refine wp_region_quiet_below Try.mixed (by kernel_rfl) ?_
          repeat (go_big_quiet_step (fail))
          refine wpQuiet_nil ?_
          intro w6 hw6
          have D6 : Hid (Below w5.heap.size w5 w6) := (show Below _ _ _ by obtain ⟨⟨dq, osq⟩, rfl⟩ := hw6; exact below_regrown w5 dq osq)
          have L6 : Hid (Below w.heap.size w w6) := L5.out.trans (D6.out.mono L5.out.size)
          have B6 := hide (B5.out.kept D6.out)
          clear hw6 k0' kE' kn'
          have HM : Hid (PMid w R (.slice (some ⟨b, off, none⟩) n_ cp) rs ch la fl ky i w6 (.slice (some ⟨b, off, none⟩) n_ cp) rs) := HS.out.mid hlt' HK.out L6.out
          obtain ⟨g, n2, c2, ra, HM⟩ : ∃ g n2 c2 ra, Hid (PMid w R (.slice (some ⟨b, off, none⟩) n_ cp) rs ch la fl ky i w6 (.slice (some ⟨g, 0, none⟩) n2 c2) ra) := HM.out.row
          have hn2 : i < n2 := by have := HM.out.hi; rwa [HM.out.own.rd.len] at this
          have hgl : g < w6.heap.size := (HM.out.own.block (b := g) rfl).2.1
          obtain ⟨u, HU⟩ : ∃ u, Hid (ra[i]'HM.out.hi = u) := ⟨_, rfl⟩
          have hcu : w6.cell? ⟨g, i * 2 + 1, none⟩ = some (.slice u.2.1 u.2.2.1 u.2.2.2) := by
            obtain ⟨b_, off_, hv, -, hx⟩ := HM.out.own.rd.nth (by omega)
            cases hv
            have := hx i HM.out.hi 1 (.slice u.2.1 u.2.2.1 u.2.2.2) (by rw [HU.out]; rfl)
            rw [Nat.zero_add] at this
            exact this
          have HUC : Hid (RdV w6 (.slice u.2.1 u.2.2.1 u.2.2.2) (ch ky)) := (show RdV _ _ _ by
            have := HM.out.ch u (by rw [← HU.out]; exact List.getElem_mem _)
            rw [← HU.out, HM.out.nm, HU.out] at this
            exact this)
          have hbv : ∀ W, (Instr.build 87 #[(0, .int .i64 m), (1, .string va), (2, .bool dd)]).run Try.prog W = .ok (.agg (VC (m, va, dd)).toArray) W := fun W => by kernel_rfl
          go_wp2_with fail
          refine wp_region_inv Try.mixed (KS (fun i_ => match i_ with | 0 | 1 | 2 => .val (.pointer (some ⟨R, 0, none⟩)) | 3 => .val (.slice (some ⟨g, 0, none⟩) n2 c2) | 4 => .val (.int .i64 (i : Int)) | 5 => .val (.pointer (some ⟨g, i * 2, none⟩)) | 6 => .val (.pointer (some ⟨g, i * 2 + 1, none⟩)) | 7 => .val (.slice u.2.1 u.2.2.1 u.2.2.2) | 8 => .val (.int .i64 m) | 9 => .val (.pointer (some ⟨E, 1, none⟩)) | 10 => .val (.string va) | 11 => .val (.pointer (some ⟨E, 2, none⟩)) | 12 => .val (.bool dd) | 13 => .val (.agg (VC (m, va, dd)).toArray) | 14 | 15 => .of (fun W x => ∃ y : Option Addr × Nat × Nat, x = .tuple #[.slice y.1 y.2.1 y.2.2, .bool true] ∧ OwnV W w6.heap.size 87 (.slice y.1 y.2.1 y.2.2) (ch ky ++ [verOf m (ky, va, dd)])) (fun _ _ _ hg h => by obtain ⟨y, h1, h2⟩ := h; exact ⟨y, h1, h2.kept hg⟩) | 16 | 18 => .of (fun W x => ∃ y : Option Addr × Nat × Nat, x = .slice y.1 y.2.1 y.2.2 ∧ OwnV W w6.heap.size 87 (.slice y.1 y.2.1 y.2.2) (ch ky ++ [verOf m (ky, va, dd)])) (fun _ _ _ hg h => by obtain ⟨y, h1, h2⟩ := h; exact ⟨y, h1, h2.kept hg⟩) | 17 | 19 => .val (.bool true) | _ => .free)) 99 rfl (by decide +kernel) (KS_mono _) ?_ ?_
          · refine AllFrom.cons (fun a' w' hg hk hd => ?_) (AllFrom.cons (fun a' w' hg hk hd => ?_) (AllFrom.cons (fun a' w' hg hk hd => ?_) (AllFrom.cons (fun a' w' hg hk hd => ?_) (AllFrom.cons (fun a' w' hg hk hd => ?_) (AllFrom.cons (fun a' w' hg hk hd => ?_) (AllFrom.cons (fun a' w' hg hk hd => ?_) (AllFrom.cons (fun a' w' hg hk hd => ?_) (AllFrom.cons (fun a' w' hg hk hd => ?_) (AllFrom.cons (fun a' w' hg hk hd => ?_) (AllFrom.cons (fun a' w' hg hk hd => ?_) (AllFrom.cons (fun a' w' hg hk hd => ?_) (AllFrom.cons (fun a' w' hg hk hd => ?_) (AllFrom.cons (fun a' w' hg hk hd => ?_) (AllFrom.cons (fun a' w' hg hk hd => ?_) (AllFrom.cons (fun a' w' hg hk hd => ?_) (AllFrom.cons (fun a' w' hg hk hd => ?_) (AllFrom.cons (fun a' w' hg hk hd => ?_) (AllFrom.cons (fun a' w' hg hk hd => ?_) (AllFrom.cons (fun a' w' hg hk hd => ?_) AllFrom.nil)))))))))))))))))))
            · -- 0: Op.move (Operand.tmp 0)
              intro Q
              have e0 : a'.eval (.tmp 0) = .pointer (some ⟨R, 0, none⟩) := hk.at 0 (by decide +kernel)
              exact wp_value _ (by simp only [execOp, e0]; rfl) (KS_mkv rfl rfl)
            · -- 1: Op.nilCheck (Operand.tmp 74)
              intro Q
              have e74 : a'.eval (.tmp 74) = .pointer (some ⟨R, 0, none⟩) := KS_val (Deps.val hd 0 74 (by decide +kernel)) rfl
              clear hd hk
              exact wp_value (.pointer (some ⟨R, 0, none⟩)) (by simp only [execOp, e74]; go_simp) (KS_mkv rfl rfl)
            · -- 2: Op.fieldAddr 30 (Operand.tmp 75) 0
              intro Q
              have e75 : a'.eval (.tmp 75) = .pointer (some ⟨R, 0, none⟩) := KS_val (Deps.val hd 1 75 (by decide +kernel)) rfl
              clear hd hk
              exact wp_value (.pointer (some ⟨R, 0, none⟩)) (by simp only [execOp, e75]; go_simp) (KS_mkv rfl rfl)
            · -- 3: Op.load 28 (Operand.tmp 76)
              intro Q
              have e76 : a'.eval (.tmp 76) = .pointer (some ⟨R, 0, none⟩) := KS_val (Deps.val hd 2 76 (by decide +kernel)) rfl
              have c_ : w'.cell? ⟨R, 0, none⟩ = some (.slice (some ⟨g, 0, none⟩) n2 c2) := (HM.out.d.kept hg).cell (j := 0) rfl
              clear hd hk
              exact wp_value (.slice (some ⟨g, 0, none⟩) n2 c2) (by simp only [execOp, e76]; go_simp) (KS_mkv rfl rfl)
            · -- 4: Op.move (Operand.tmp 6)
              intro Q
              have e6 : a'.eval (.tmp 6) = .int .i64 (i : Int) := hk.at 6 (by decide +kernel)
              exact wp_value _ (by simp only [execOp, e6]; rfl) (KS_mkv rfl rfl)
            · -- 5: Op.indexAddr 28 (Operand.tmp 77) (Operand.tmp 78)
              intro Q
              have e77 : a'.eval (.tmp 77) = .slice (some ⟨g, 0, none⟩) n2 c2 := KS_val (Deps.val hd 3 77 (by decide +kernel)) rfl
              have e78 : a'.eval (.tmp 78) = .int .i64 (i : Int) := KS_val (Deps.val hd 4 78 (by decide +kernel)) rfl
              clear hd hk
              exact wp_value (.pointer (some ⟨g, i * 2, none⟩)) (by simp only [execOp, e77, e78]; go_simp) (KS_mkv rfl rfl)
            · -- 6: Op.fieldAddr 69 (Operand.tmp 79) 1
              intro Q
              have e79 : a'.eval (.tmp 79) = .pointer (some ⟨g, i * 2, none⟩) := KS_val (Deps.val hd 5 79 (by decide +kernel)) rfl
              clear hd hk
              exact wp_value (.pointer (some ⟨g, i * 2 + 1, none⟩)) (by simp only [execOp, e79]; go_simp) (KS_mkv rfl rfl)
            · -- 7: Op.load 67 (Operand.tmp 80)
              intro Q
              have e80 : a'.eval (.tmp 80) = .pointer (some ⟨g, i * 2 + 1, none⟩) := KS_val (Deps.val hd 6 80 (by decide +kernel)) rfl
              have c_ : w'.cell? ⟨g, i * 2 + 1, none⟩ = some (.slice u.2.1 u.2.2.1 u.2.2.2) := (Below.cell hg (p := ⟨g, i * 2 + 1, none⟩) hgl).trans hcu
              clear hd hk
              exact wp_value (.slice u.2.1 u.2.2.1 u.2.2.2) (by simp only [execOp, e80]; go_simp) (KS_mkv rfl rfl)
            · -- 8: Op.move (Operand.tmp 2)
              intro Q
              have e2 : a'.eval (.tmp 2) = .int .i64 m := hk.at 2 (by decide +kernel)
              exact wp_value _ (by simp only [execOp, e2]; rfl) (KS_mkv rfl rfl)
            · -- 9: Op.fieldAddr 49 (Operand.tmp 4) 1
              intro Q
              have e4 : a'.eval (.tmp 4) = .pointer (some ⟨E, 0, none⟩) := hk.at 4 (by decide +kernel)
              clear hd hk
              exact wp_value (.pointer (some ⟨E, 1, none⟩)) (by simp only [execOp, e4]; go_simp) (KS_mkv rfl rfl)
            · -- 10: Op.load 9 (Operand.tmp 83)
              intro Q
              have e83 : a'.eval (.tmp 83) = .pointer (some ⟨E, 1, none⟩) := KS_val (Deps.val hd 9 83 (by decide +kernel)) rfl
              have c_ : w'.cell? ⟨E, 1, none⟩ = some (.string va) := (B6.out.kept hg).cell (j := 1) rfl
              clear hd hk
              exact wp_value (.string va) (by simp only [execOp, e83]; go_simp) (KS_mkv rfl rfl)
            · -- 11: Op.fieldAddr 49 (Operand.tmp 4) 2
              intro Q
              have e4 : a'.eval (.tmp 4) = .pointer (some ⟨E, 0, none⟩) := hk.at 4 (by decide +kernel)
              clear hd hk
              exact wp_value (.pointer (some ⟨E, 2, none⟩)) (by simp only [execOp, e4]; go_simp) (KS_mkv rfl rfl)
            · -- 12: Op.load 4 (Operand.tmp 85)
              intro Q
              have e85 : a'.eval (.tmp 85) = .pointer (some ⟨E, 2, none⟩) := KS_val (Deps.val hd 11 85 (by decide +kernel)) rfl
              have c_ : w'.cell? ⟨E, 2, none⟩ = some (.bool dd) := (B6.out.kept hg).cell (j := 2) rfl
              clear hd hk
              exact wp_value (.bool dd) (by simp only [execOp, e85]; go_simp) (KS_mkv rfl rfl)
            · -- 13: Op.build 87 #[(0, Operand.tmp 82), (1, Operand.tmp 84), (2, 
              intro Q
              have e82 : a'.eval (.tmp 82) = .int .i64 m := KS_val (Deps.val hd 8 82 (by decide +kernel)) rfl
              have e84 : a'.eval (.tmp 84) = .string va := KS_val (Deps.val hd 10 84 (by decide +kernel)) rfl
              have e86 : a'.eval (.tmp 86) = .bool dd := KS_val (Deps.val hd 12 86 (by decide +kernel)) rfl
              clear hd hk
              exact wp_value (.agg (VC (m, va, dd)).toArray) (by simp only [execOp, List.map_toArray, List.map_cons, List.map_nil, e82, e84, e86, hbv, Sem.run_bind, Sem.run_pure, Result.andThen_ok]) (KS_mkv rfl rfl)
            · -- 14: Op.call ( callee := Callee.value (Operand.func 59), args := 
              intro Q
              have e81 : a'.eval (.tmp 81) = .slice u.2.1 u.2.2.1 u.2.2.2 := KS_val (Deps.val hd 7 81 (by decide +kernel)) rfl
              have e87 : a'.eval (.tmp 87) = .agg (VC (m, va, dd)).toArray := KS_val (Deps.val hd 13 87 (by decide +kernel)) rfl
              refine wp_call 59 _ (run_enter 59 _ _ rfl (by kernel_rfl)) ?_
              simp only [List.map_toArray, List.map_nil, List.map_cons, e81, e87]
              refine (kput_own (HUC.out.kept hg) (by omega) (m, va, dd) HP.out).mono ?_
              rintro e_ w_ ⟨v_, rfl, ho_, hb_⟩
              rw [show putP (ch ky) (m, va, dd) = ch ky ++ [verOf m (ky, va, dd)] from putP_ok HP.out] at ho_
              obtain ⟨y, rfl⟩ := ho_.form
              exact ⟨_, rfl, KS_mko rfl ⟨y, rfl, ho_.mono hg.size⟩, hb_⟩
            · -- 15: Op.move (Operand.tmp 88)
              intro Q
              have r88 := KS_of (Deps.val hd 14 88 (by decide +kernel)) rfl
              exact wp_value (a'.eval (.tmp 88)) (by simp only [execOp]; rfl) (KS_mko rfl r88)
            · -- 16: Op.extract (Operand.tmp 73) 0
              intro Q
              have r73 := KS_of (Deps.val hd 15 73 (by decide +kernel)) rfl
              obtain ⟨y, e73, o73⟩ := r73
              exact wp_value (.slice y.1 y.2.1 y.2.2) (by simp only [execOp, e73]; rfl) (KS_mko rfl ⟨y, rfl, o73⟩)
            · -- 17: Op.extract (Operand.tmp 73) 1
              intro Q
              have r73 := KS_of (Deps.val hd 15 73 (by decide +kernel)) rfl
              obtain ⟨y, e73, o73⟩ := r73
              exact wp_value (.bool true) (by simp only [execOp, e73]; rfl) (KS_mkv rfl rfl)
            · -- 18: Op.assign (Operand.tmp 89)
              intro Q
              have r89 := KS_of (Deps.val hd 16 89 (by decide +kernel)) rfl
              exact wp_value (a'.eval (.tmp 89)) (by simp only [execOp]; rfl) (KS_mko rfl r89)
            · -- 19: Op.assign (Operand.tmp 90)
              intro Q
              have e90 : a'.eval (.tmp 90) = .bool true := KS_val (Deps.val hd 17 90 (by decide +kernel)) rfl
              exact wp_value _ (by simp only [execOp, e90]; rfl) (KS_mkv rfl rfl)
          · intro a' wb hsz hdf hk hall hg
            have e74 : a'.eval (.tmp 74) = .pointer (some ⟨R, 0, none⟩) := KS_val (hall 0 _ 74 rfl rfl) rfl
            have e75 : a'.eval (.tmp 75) = .pointer (some ⟨R, 0, none⟩) := KS_val (hall 1 _ 75 rfl rfl) rfl
            have e76 : a'.eval (.tmp 76) = .pointer (some ⟨R, 0, none⟩) := KS_val (hall 2 _ 76 rfl rfl) rfl
            have e77 : a'.eval (.tmp 77) = .slice (some ⟨g, 0, none⟩) n2 c2 := KS_val (hall 3 _ 77 rfl rfl) rfl
            have e78 : a'.eval (.tmp 78) = .int .i64 (i : Int) := KS_val (hall 4 _ 78 rfl rfl) rfl
            have e79 : a'.eval (.tmp 79) = .pointer (some ⟨g, i * 2, none⟩) := KS_val (hall 5 _ 79 rfl rfl) rfl
            have e80 : a'.eval (.tmp 80) = .pointer (some ⟨g, i * 2 + 1, none⟩) := KS_val (hall 6 _ 80 rfl rfl) rfl
            have e81 : a'.eval (.tmp 81) = .slice u.2.1 u.2.2.1 u.2.2.2 := KS_val (hall 7 _ 81 rfl rfl) rfl
            have e82 : a'.eval (.tmp 82) = .int .i64 m := KS_val (hall 8 _ 82 rfl rfl) rfl
            have e83 : a'.eval (.tmp 83) = .pointer (some ⟨E, 1, none⟩) := KS_val (hall 9 _ 83 rfl rfl) rfl
            have e84 : a'.eval (.tmp 84) = .string va := KS_val (hall 10 _ 84 rfl rfl) rfl
            have e85 : a'.eval (.tmp 85) = .pointer (some ⟨E, 2, none⟩) := KS_val (hall 11 _ 85 rfl rfl) rfl
            have e86 : a'.eval (.tmp 86) = .bool dd := KS_val (hall 12 _ 86 rfl rfl) rfl
            have e87 : a'.eval (.tmp 87) = .agg (VC (m, va, dd)).toArray := KS_val (hall 13 _ 87 rfl rfl) rfl
            have r88 := KS_of (hall 14 _ 88 rfl rfl) rfl
            obtain ⟨x88, e88⟩ : ∃ v, a'.eval (.tmp 88) = v := ⟨_, rfl⟩
            rw [e88] at r88
            have r73 := KS_of (hall 15 _ 73 rfl rfl) rfl
            obtain ⟨x73, e73⟩ : ∃ v, a'.eval (.tmp 73) = v := ⟨_, rfl⟩
            rw [e73] at r73
            have r89 := KS_of (hall 16 _ 89 rfl rfl) rfl
            obtain ⟨x89, e89⟩ : ∃ v, a'.eval (.tmp 89) = v := ⟨_, rfl⟩
            rw [e89] at r89
            have e90 : a'.eval (.tmp 90) = .bool true := KS_val (hall 17 _ 90 rfl rfl) rfl
            have r7 := KS_of (hall 18 _ 7 rfl rfl) rfl
            obtain ⟨x7, e7⟩ : ∃ v, a'.eval (.tmp 7) = v := ⟨_, rfl⟩
            rw [e7] at r7
            have e8 : a'.eval (.tmp 8) = .bool true := KS_val (hall 19 _ 8 rfl rfl) rfl
            have ha := act_puts 99 rfl hsz hdf hk [74, 75, 76, 77, 78, 79, 80, 81, 82, 83, 84, 85, 86, 87, 88, 73, 89, 90, 7, 8] (by decide +kernel)
            simp only [puts, List.foldl_cons, List.foldl_nil, e74, e75, e76, e77, e78, e79, e80, e81, e82, e83, e84, e85, e86, e87, e88, e73, e89, e90, e7, e8] at ha
            simp only [Act.put, List.setIfInBounds_toArray, List.set_cons_succ, List.set_cons_zero] at ha
            clear hall hk hsz hdf r88 r73 r89 e74 e75 e76 e77 e78 e79 e80 e81 e82 e83 e84 e85 e86 e87 e88 e73 e89 e90 e7 e8
            subst ha
            obtain ⟨y, rfl, o7⟩ := r7
            have HO := hide o7
            have GB := hide hg
            clear o7 hg hbv
            have HD := hide (HM.out.done (p := (ky, va, dd)) (m := m) (y := y) GB.out HO.out)
            have hcb : wb.cell? ⟨g, i * 2 + 1, none⟩ = some (.slice u.2.1 u.2.2.1 u.2.2.2) := (Below.cell GB.out (p := ⟨g, i * 2 + 1, none⟩) hgl).trans hcu
            have hfb : wb.frozen? ⟨g, i * 2 + 1, none⟩ = false := by
              obtain ⟨g_, c_, cur, hv, -, hb_, -⟩ := (HM.out.kept GB.out).own.blk (Nat.lt_of_le_of_lt (Nat.zero_le _) HM.out.hi)
              cases hv
              exact hb_.frozen _
            have hcR : wb.cell? ⟨R, 0, none⟩ = some (.slice (some ⟨g, 0, none⟩) n2 c2) := (HM.out.d.kept GB.out).cell (j := 0) rfl
            have hq2 : (i : Int) < (n2 : Int) := by omega
            clear hcu
            go_wp2_with fail
            refine bodyPost_end (results_none rfl _ _ _) rfl ?_
            obtain ⟨rs', h1, h2, h3, h4, h5⟩ := HD.out
            exact ⟨rfl, _, rs', h1, h2, h3, HN.out ▸ h4, h5⟩
        | false =>
          have HK : Hid (ky ∉ rs.map (·.1)) := (show _ from fun hm => by
            obtain ⟨y, hy, e1⟩ := List.mem_map.1 hm
            obtain ⟨j, hj, rfl⟩ := List.getElem_of_mem hy
            have h1 := HLT.out j hj
            rw [e1, lt_irrefl] at h1
            have h2 := HLT.out i hlt'
            rw [HX.out] at h2
            rcases Nat.lt_or_ge i j with hl | hl
            · have := List.pairwise_iff_getElem.1 HS.out.srt i j (by simpa using hlt') (by simpa using hj) hl
              simp only [List.getElem_map] at this
              rw [e1, HX.out, show lt x.1 ky = false from q4] at this
              cases this
            · have : i = j := by have := of_decide_eq_false h1.symm; omega
              subst this
              rw [HX.out] at e1
              rw [e1] at h6
              simp at h6)
          refine wp_region_quiet_below Try.mixed (by kernel_rfl) ?_
          repeat (go_big_quiet_step (fail))
          refine wpQuiet_nil ?_
          intro w6 hw6
          have D6 : Hid (Below w5.heap.size w5 w6) := (show Below _ _ _ by obtain ⟨⟨dq, osq⟩, rfl⟩ := hw6; exact below_regrown w5 dq osq)
          have L6 : Hid (Below w.heap.size w w6) := L5.out.trans (D6.out.mono L5.out.size)
          have B6 := hide (B5.out.kept D6.out)
          clear hw6 k0' kE' kn'
          go_wp2_with fail
          obtain ⟨a2, hs2, -, hs3⟩ := slice_G (E := RKE) (P := Try.prog) Try.underlying28 Try.size69 (some ⟨b, off, none⟩) n_ cp i (by omega) hcp
          obtain ⟨hs1, hs4⟩ := slice_G_cap (E := RKE) (P := Try.prog) Try.underlying28 Try.size69 (some ⟨b, off, none⟩) n_ cp i (by omega) hcp
          have hbd : ∀ W, (Instr.build 69 #[(0, .string ky)]).run Try.prog W = .ok (.agg #[.string ky, .slice none 0 0]) W := fun W => by kernel_rfl
          have hbs : ∀ W, (Instr.buildSlice 28 1 #[(0, .agg #[.string ky, .slice none 0 0])]).run Try.prog W = .ok (.slice (some ⟨W.heap.size, 0, none⟩) 1 1) (W.alloc (.cells #[.string ky, .slice none 0 0] 69 (0, 0))) := fun W => by kernel_rfl
          obtain ⟨ti, hti, hz0, hz1, hz2⟩ := info_parts Try.info69
          refine wp_region_tails Try.mixed (KS (fun i_ => match i_ with | 0 | 1 | 2 | 3 | 12 | 13 | 14 | 20 | 21 => .val (.pointer (some ⟨R, 0, none⟩)) | 4 | 15 => .val (.slice (some ⟨b, off, none⟩) n_ cp) | 5 | 6 | 16 => .val (.int .i64 (i : Int)) | 7 => .val (.slice (some ⟨b, off, none⟩) i i) | 8 => .val (.pointer (some ⟨E, 0, none⟩)) | 9 => .val (.string ky) | 10 => .val (.agg #[.string ky, .slice none 0 0]) | 11 => .of (fun W x => ∃ g, x = .slice (some g) 1 1 ∧ RdG RKE W x [((ky, none, 0, 0) : RK)]) (fun _ _ _ hg h => by obtain ⟨g, h1, h2⟩ := h; exact ⟨g, h1, h2.kept hg⟩) | 17 => .val (.slice a2 (n_ - i) (cp - i)) | 18 => .of (fun W x => RdG RKE W x ([((ky, none, 0, 0) : RK)] ++ rs.drop i)) (fun _ _ _ hg h => RdG.kept h hg) | 19 => .of (fun W x => OwnG RKE W w.heap.size 69 x (rs.take i ++ ([((ky, none, 0, 0) : RK)] ++ rs.drop i))) (fun _ _ _ hg h => OwnG.kept h hg) | _ => .free)) 99 rfl (by decide +kernel) 22 (by decide) (by decide +kernel) (KS_mono _) ?_ ?_
          · refine AllFrom.cons ⟨rfl, fun a' w' hg hk hd Q => ?_⟩ (AllFrom.cons ⟨rfl, fun a' w' hg hk hd Q => ?_⟩ (AllFrom.cons ⟨rfl, fun a' w' hg hk hd Q => ?_⟩ (AllFrom.cons ⟨rfl, fun a' w' hg hk hd Q => ?_⟩ (AllFrom.cons ⟨rfl, fun a' w' hg hk hd Q => ?_⟩ (AllFrom.cons ⟨rfl, fun a' w' hg hk hd Q => ?_⟩ (AllFrom.cons ⟨rfl, fun a' w' hg hk hd Q => ?_⟩ (AllFrom.cons ⟨rfl, fun a' w' hg hk hd Q => ?_⟩ (AllFrom.cons ⟨rfl, fun a' w' hg hk hd Q => ?_⟩ (AllFrom.cons ⟨rfl, fun a' w' hg hk hd Q => ?_⟩ (AllFrom.cons ⟨rfl, fun a' w' hg hk hd Q => ?_⟩ (AllFrom.cons ⟨rfl, fun a' w' hg hk hd Q => ?_⟩ (AllFrom.cons ⟨rfl, fun a' w' hg hk hd Q => ?_⟩ (AllFrom.cons ⟨rfl, fun a' w' hg hk hd Q => ?_⟩ (AllFrom.cons ⟨rfl, fun a' w' hg hk hd Q => ?_⟩ (AllFrom.cons ⟨rfl, fun a' w' hg hk hd Q => ?_⟩ (AllFrom.cons ⟨rfl, fun a' w' hg hk hd Q => ?_⟩ (AllFrom.cons ⟨rfl, fun a' w' hg hk hd Q => ?_⟩ (AllFrom.cons ⟨rfl, fun a' w' hg hk hd Q => ?_⟩ (AllFrom.cons ⟨rfl, fun a' w' hg hk hd Q => ?_⟩ (AllFrom.cons ⟨rfl, fun a' w' hg hk hd Q => ?_⟩ (AllFrom.cons ⟨rfl, fun a' w' hg hk hd Q => ?_⟩ AllFrom.nil)))))))))))))))))))))
            · -- 0: Op.move (Operand.tmp 0)
              have e0 : a'.eval (.tmp 0) = .pointer (some ⟨R, 0, none⟩) := hk.at 0 (by decide +kernel)
              exact wp_value _ (by simp only [execOp, e0]; rfl) (KS_mkv rfl rfl)
            · -- 1: Op.move (Operand.tmp 0)
              have e0 : a'.eval (.tmp 0) = .pointer (some ⟨R, 0, none⟩) := hk.at 0 (by decide +kernel)
              exact wp_value _ (by simp only [execOp, e0]; rfl) (KS_mkv rfl rfl)
            · -- 2: Op.nilCheck (Operand.tmp 52)
              have e52 : a'.eval (.tmp 52) = .pointer (some ⟨R, 0, none⟩) := KS_val (Deps.val hd 1 52 (by decide +kernel)) rfl
              clear hd hk
              exact wp_value (.pointer (some ⟨R, 0, none⟩)) (by simp only [execOp, e52]; go_simp) (KS_mkv rfl rfl)
            · -- 3: Op.fieldAddr 30 (Operand.tmp 53) 0
              have e53 : a'.eval (.tmp 53) = .pointer (some ⟨R, 0, none⟩) := KS_val (Deps.val hd 2 53 (by decide +kernel)) rfl
              clear hd hk
              exact wp_value (.pointer (some ⟨R, 0, none⟩)) (by simp only [execOp, e53]; go_simp) (KS_mkv rfl rfl)
            · -- 4: Op.load 28 (Operand.tmp 54)
              have e54 : a'.eval (.tmp 54) = .pointer (some ⟨R, 0, none⟩) := KS_val (Deps.val hd 3 54 (by decide +kernel)) rfl
              have c_ : w'.cell? ⟨R, 0, none⟩ = some (.slice (some ⟨b, off, none⟩) n_ cp) := ((HS.out.d.kept L6.out).kept hg).cell (j := 0) rfl
              clear hd hk
              exact wp_value (.slice (some ⟨b, off, none⟩) n_ cp) (by simp only [execOp, e54]; go_simp) (KS_mkv rfl rfl)
            · -- 5: Op.move (Operand.tmp 6)
              have e6 : a'.eval (.tmp 6) = .int .i64 (i : Int) := hk.at 6 (by decide +kernel)
              exact wp_value _ (by simp only [execOp, e6]; rfl) (KS_mkv rfl rfl)
            · -- 6: Op.move (Operand.tmp 6)
              have e6 : a'.eval (.tmp 6) = .int .i64 (i : Int) := hk.at 6 (by decide +kernel)
              exact wp_value _ (by simp only [execOp, e6]; rfl) (KS_mkv rfl rfl)
            · -- 7: Op.slice 28 (Operand.tmp 55) none (some (Operand.tmp 56)) (s
              have e55 : a'.eval (.tmp 55) = .slice (some ⟨b, off, none⟩) n_ cp := KS_val (Deps.val hd 4 55 (by decide +kernel)) rfl
              have e56 : a'.eval (.tmp 56) = .int .i64 (i : Int) := KS_val (Deps.val hd 5 56 (by decide +kernel)) rfl
              have e57 : a'.eval (.tmp 57) = .int .i64 (i : Int) := KS_val (Deps.val hd 6 57 (by decide +kernel)) rfl
              clear hd hk
              exact wp_value _ (by simp only [execOp, Option.map_some, Option.map_none, e55, e56, e57, hs1, Sem.run_bind, Sem.run_pure, Result.andThen_ok]) (KS_mkv rfl rfl)
            · -- 8: Op.fieldAddr 49 (Operand.tmp 4) 0
              have e4 : a'.eval (.tmp 4) = .pointer (some ⟨E, 0, none⟩) := hk.at 4 (by decide +kernel)
              clear hd hk
              exact wp_value (.pointer (some ⟨E, 0, none⟩)) (by simp only [execOp, e4]; go_simp) (KS_mkv rfl rfl)
            · -- 9: Op.load 9 (Operand.tmp 59)
              have e59 : a'.eval (.tmp 59) = .pointer (some ⟨E, 0, none⟩) := KS_val (Deps.val hd 8 59 (by decide +kernel)) rfl
              have c_ : w'.cell? ⟨E, 0, none⟩ = some (.string ky) := (B6.out.kept hg).cell (j := 0) rfl
              clear hd hk
              exact wp_value (.string ky) (by simp only [execOp, e59]; go_simp) (KS_mkv rfl rfl)
            · -- 10: Op.build 69 #[(0, Operand.tmp 60)]
              have e60 : a'.eval (.tmp 60) = .string ky := KS_val (Deps.val hd 9 60 (by decide +kernel)) rfl
              clear hd hk
              exact wp_value (.agg #[.string ky, .slice none 0 0]) (by simp only [execOp, List.map_toArray, List.map_cons, List.map_nil, e60, hbd, Sem.run_bind, Sem.run_pure, Result.andThen_ok]) (KS_mkv rfl rfl)
            · -- 11: Op.buildSlice 28 1 #[(0, Operand.tmp 61)]
              have e61 : a'.eval (.tmp 61) = .agg #[.string ky, .slice none 0 0] := KS_val (Deps.val hd 10 61 (by decide +kernel)) rfl
              refine wp_grow (.slice (some ⟨w'.heap.size, 0, none⟩) 1 1) (w'.alloc (.cells (RKC ((ky, none, 0, 0) : RK)).toArray 69 (0, 0))) ?_ ((Below.refl _ _).alloc (Nat.le_refl _) _) (KS_mko rfl ⟨_, rfl, rdG_one (E := RKE) w' 69 ((ky, none, 0, 0) : RK)⟩)
              have hr_ := hbs w'
              simp only [execOp, List.map_toArray, List.map_cons, List.map_nil, e61, hr_, Sem.run_bind, Sem.run_pure, Result.andThen_ok]
              rfl
            · -- 12: Op.move (Operand.tmp 0)
              have e0 : a'.eval (.tmp 0) = .pointer (some ⟨R, 0, none⟩) := hk.at 0 (by decide +kernel)
              exact wp_value _ (by simp only [execOp, e0]; rfl) (KS_mkv rfl rfl)
            · -- 13: Op.nilCheck (Operand.tmp 63)
              have e63 : a'.eval (.tmp 63) = .pointer (some ⟨R, 0, none⟩) := KS_val (Deps.val hd 12 63 (by decide +kernel)) rfl
              clear hd hk
              exact wp_value (.pointer (some ⟨R, 0, none⟩)) (by simp only [execOp, e63]; go_simp) (KS_mkv rfl rfl)
            · -- 14: Op.fieldAddr 30 (Operand.tmp 64) 0
              have e64 : a'.eval (.tmp 64) = .pointer (some ⟨R, 0, none⟩) := KS_val (Deps.val hd 13 64 (by decide +kernel)) rfl
              clear hd hk
              exact wp_value (.pointer (some ⟨R, 0, none⟩)) (by simp only [execOp, e64]; go_simp) (KS_mkv rfl rfl)
            · -- 15: Op.load 28 (Operand.tmp 65)
              have e65 : a'.eval (.tmp 65) = .pointer (some ⟨R, 0, none⟩) := KS_val (Deps.val hd 14 65 (by decide +kernel)) rfl
              have c_ : w'.cell? ⟨R, 0, none⟩ = some (.slice (some ⟨b, off, none⟩) n_ cp) := ((HS.out.d.kept L6.out).kept hg).cell (j := 0) rfl
              clear hd hk
              exact wp_value (.slice (some ⟨b, off, none⟩) n_ cp) (by simp only [execOp, e65]; go_simp) (KS_mkv rfl rfl)
            · -- 16: Op.move (Operand.tmp 6)
              have e6 : a'.eval (.tmp 6) = .int .i64 (i : Int) := hk.at 6 (by decide +kernel)
              exact wp_value _ (by simp only [execOp, e6]; rfl) (KS_mkv rfl rfl)
            · -- 17: Op.slice 28 (Operand.tmp 66) (some (Operand.tmp 67)) none no
              have e66 : a'.eval (.tmp 66) = .slice (some ⟨b, off, none⟩) n_ cp := KS_val (Deps.val hd 15 66 (by decide +kernel)) rfl
              have e67 : a'.eval (.tmp 67) = .int .i64 (i : Int) := KS_val (Deps.val hd 16 67 (by decide +kernel)) rfl
              clear hd hk
              exact wp_value _ (by simp only [execOp, Option.map_some, Option.map_none, e66, e67, hs2, Sem.run_bind, Sem.run_pure, Result.andThen_ok]) (KS_mkv rfl rfl)
            · -- 18: Op.call ( callee := Callee.builtin Builtin.append, args := #
              have r62 := KS_of (Deps.val hd 11 62 (by decide +kernel)) rfl
              have e68 : a'.eval (.tmp 68) = .slice a2 (n_ - i) (cp - i) := KS_val (Deps.val hd 17 68 (by decide +kernel)) rfl
              obtain ⟨g_, eg_, hg_⟩ := r62
              rw [eg_] at hg_
              obtain ⟨v_, w_, hr_, h2_, h3_⟩ := run_append_rd (E := RKE) (P := Try.prog) w' 28 28 28 69 ti (.agg #[.string ⟨#[]⟩, .slice none 0 0]) 40 Try.underlying28 hti hz0 hz1 hz2 rfl g_ 1 _ hg_ (.slice a2 (n_ - i) (cp - i)) (rs.drop i) ((hs3 _ _ (((HS.out.own.rd).kept L6.out).kept hg)).src 28 69 Try.underlying28) (by rw [List.length_drop, HN.out]; simp only [maxLen]; omega) (by rw [List.length_drop, HN.out]; omega)
              refine wp_grow v_ w_ ?_ h3_ (KS_mko rfl h2_)
              simp only [execOp, resolve, invoke, builtin, Sem.run_bind, Sem.run_pure, Result.andThen_ok, List.map_toArray, List.map_cons, List.map_nil, eg_, e68, hr_]
            · -- 19: Op.call ( callee := Callee.builtin Builtin.append, args := #
              have e58 : a'.eval (.tmp 58) = .slice (some ⟨b, off, none⟩) i i := KS_val (Deps.val hd 7 58 (by decide +kernel)) rfl
              have r69 := KS_of (Deps.val hd 18 69 (by decide +kernel)) rfl
              have hlr_ : ([((ky, none, 0, 0) : RK)] ++ rs.drop i).length = 1 + (n_ - i) := by rw [List.length_append, List.length_drop, HN.out]; rfl
              obtain ⟨v_, w_, hr_, h2_, h3_, -⟩ := run_append_full (E := RKE) (P := Try.prog) w' w.heap.size 28 28 28 69 ti (.agg #[.string ⟨#[]⟩, .slice none 0 0]) 40 Try.underlying28 hti hz0 hz1 hz2 rfl (some ⟨b, off, none⟩) i _ (hs4 _ _ (((HS.out.own.rd).kept L6.out).kept hg)) (a'.eval (.tmp 69)) ([((ky, none, 0, 0) : RK)] ++ rs.drop i) (r69.src 28 69 Try.underlying28) (by rw [hlr_]; omega) (by rw [hlr_]; simp only [maxLen]; omega) (by rw [hlr_]; omega) (Nat.le_trans L6.out.size hg.size)
              refine wp_grow v_ w_ ?_ h3_ (KS_mko rfl h2_)
              simp only [execOp, resolve, invoke, builtin, Sem.run_bind, Sem.run_pure, Result.andThen_ok, List.map_toArray, List.map_cons, List.map_nil, e58, hr_]
            · -- 20: Op.nilCheck (Operand.tmp 51)
              have e51 : a'.eval (.tmp 51) = .pointer (some ⟨R, 0, none⟩) := KS_val (Deps.val hd 0 51 (by decide +kernel)) rfl
              clear hd hk
              exact wp_value (.pointer (some ⟨R, 0, none⟩)) (by simp only [execOp, e51]; go_simp) (KS_mkv rfl rfl)
            · -- 21: Op.fieldAddr 30 (Operand.tmp 71) 0
              have e71 : a'.eval (.tmp 71) = .pointer (some ⟨R, 0, none⟩) := KS_val (Deps.val hd 20 71 (by decide +kernel)) rfl
              clear hd hk
              exact wp_value (.pointer (some ⟨R, 0, none⟩)) (by simp only [execOp, e71]; go_simp) (KS_mkv rfl rfl)
          · intro a' w7 hsz hdf hk hall hg
            have e51 : a'.eval (.tmp 51) = .pointer (some ⟨R, 0, none⟩) := KS_val (hall 0 _ 51 (by decide) rfl rfl) rfl
            have e52 : a'.eval (.tmp 52) = .pointer (some ⟨R, 0, none⟩) := KS_val (hall 1 _ 52 (by decide) rfl rfl) rfl
            have e53 : a'.eval (.tmp 53) = .pointer (some ⟨R, 0, none⟩) := KS_val (hall 2 _ 53 (by decide) rfl rfl) rfl
            have e54 : a'.eval (.tmp 54) = .pointer (some ⟨R, 0, none⟩) := KS_val (hall 3 _ 54 (by decide) rfl rfl) rfl
            have e55 : a'.eval (.tmp 55) = .slice (some ⟨b, off, none⟩) n_ cp := KS_val (hall 4 _ 55 (by decide) rfl rfl) rfl
            have e56 : a'.eval (.tmp 56) = .int .i64 (i : Int) := KS_val (hall 5 _ 56 (by decide) rfl rfl) rfl
            have e57 : a'.eval (.tmp 57) = .int .i64 (i : Int) := KS_val (hall 6 _ 57 (by decide) rfl rfl) rfl
            have e58 : a'.eval (.tmp 58) = .slice (some ⟨b, off, none⟩) i i := KS_val (hall 7 _ 58 (by decide) rfl rfl) rfl
            have e59 : a'.eval (.tmp 59) = .pointer (some ⟨E, 0, none⟩) := KS_val (hall 8 _ 59 (by decide) rfl rfl) rfl
            have e60 : a'.eval (.tmp 60) = .string ky := KS_val (hall 9 _ 60 (by decide) rfl rfl) rfl
            have e61 : a'.eval (.tmp 61) = .agg #[.string ky, .slice none 0 0] := KS_val (hall 10 _ 61 (by decide) rfl rfl) rfl
            have r62 := KS_of (hall 11 _ 62 (by decide) rfl rfl) rfl
            obtain ⟨x62, e62⟩ : ∃ v, a'.eval (.tmp 62) = v := ⟨_, rfl⟩
            rw [e62] at r62
            have e63 : a'.eval (.tmp 63) = .pointer (some ⟨R, 0, none⟩) := KS_val (hall 12 _ 63 (by decide) rfl rfl) rfl
            have e64 : a'.eval (.tmp 64) = .pointer (some ⟨R, 0, none⟩) := KS_val (hall 13 _ 64 (by decide) rfl rfl) rfl
            have e65 : a'.eval (.tmp 65) = .pointer (some ⟨R, 0, none⟩) := KS_val (hall 14 _ 65 (by decide) rfl rfl) rfl
            have e66 : a'.eval (.tmp 66) = .slice (some ⟨b, off, none⟩) n_ cp := KS_val (hall 15 _ 66 (by decide) rfl rfl) rfl
            have e67 : a'.eval (.tmp 67) = .int .i64 (i : Int) := KS_val (hall 16 _ 67 (by decide) rfl rfl) rfl
            have e68 : a'.eval (.tmp 68) = .slice a2 (n_ - i) (cp - i) := KS_val (hall 17 _ 68 (by decide) rfl rfl) rfl
            have r69 := KS_of (hall 18 _ 69 (by decide) rfl rfl) rfl
            obtain ⟨x69, e69⟩ : ∃ v, a'.eval (.tmp 69) = v := ⟨_, rfl⟩
            rw [e69] at r69
            have r70 := KS_of (hall 19 _ 70 (by decide) rfl rfl) rfl
            obtain ⟨x70, e70⟩ : ∃ v, a'.eval (.tmp 70) = v := ⟨_, rfl⟩
            rw [e70] at r70
            have e71 : a'.eval (.tmp 71) = .pointer (some ⟨R, 0, none⟩) := KS_val (hall 20 _ 71 (by decide) rfl rfl) rfl
            have e72 : a'.eval (.tmp 72) = .pointer (some ⟨R, 0, none⟩) := KS_val (hall 21 _ 72 (by decide) rfl rfl) rfl
            have HM : Hid (PMid w R (.slice (some ⟨b, off, none⟩) n_ cp) rs ch la fl ky i (w7.setCell ⟨R, 0, none⟩ x70) x70 (rs.take i ++ ([((ky, none, 0, 0) : RK)] ++ rs.drop i))) := HS.out.ins HK.out HI0.out (L6.out.trans (Below.mono hg L6.out.size)) r70
            have B7 := hide ((B6.out.kept hg).set_other (c := R) (by have := HS.out.d.lt; have := HE.out; omega) 0 x70)
            have cR_ := ((HS.out.d.kept L6.out).kept hg).cell (j := 0) rfl
            have fR_ := ((HS.out.d.kept L6.out).kept hg).frozen 0
            obtain ⟨xa, xn, xc, hx_⟩ : ∃ a n c, x70 = .slice a n c := by obtain ⟨xa, xc, h⟩ := r70.rd.slice; exact ⟨_, _, _, h⟩
            subst hx_
            refine ⟨rfl, ?_⟩
            unfold Oper.wp execOp
            simp only [Sem.run_bind, Sem.run_pure, e72, e70]
            go_simp
            show Exit.then _ _ Exit.normal _ _
            have ha := act_puts 99 rfl hsz hdf hk [51, 52, 53, 54, 55, 56, 57, 58, 59, 60, 61, 62, 63, 64, 65, 66, 67, 68, 69, 70, 71, 72] (by decide +kernel)
            simp only [puts, List.foldl_cons, List.foldl_nil, e51, e52, e53, e54, e55, e56, e57, e58, e59, e60, e61, e62, e63, e64, e65, e66, e67, e68, e69, e70, e71, e72] at ha
            simp only [Act.put, List.setIfInBounds_toArray, List.set_cons_succ, List.set_cons_zero] at ha
            clear hall hk hsz hdf hg r70 r62 r69 cR_ fR_ hs1 hs2 hs3 hs4 hbd hbs e51 e52 e53 e54 e55 e56 e57 e58 e59 e60 e61 e62 e63 e64 e65 e66 e67 e68 e69 e70 e71 e72
            subst ha
            obtain ⟨w8, hw8⟩ : ∃ x, x = w7.setCell ⟨R, 0, none⟩ (.slice xa xn xc) := ⟨_, rfl⟩
            rw [← hw8] at HM B7 ⊢
            clear hw8
            obtain ⟨g, n2, c2, ra, HM⟩ : ∃ g n2 c2 ra, Hid (PMid w R (.slice (some ⟨b, off, none⟩) n_ cp) rs ch la fl ky i w8 (.slice (some ⟨g, 0, none⟩) n2 c2) ra) := HM.out.row
            have hn2 : i < n2 := by have := HM.out.hi; rwa [HM.out.own.rd.len] at this
            have hgl : g < w8.heap.size := (HM.out.own.block (b := g) rfl).2.1
            obtain ⟨u, HU⟩ : ∃ u, Hid (ra[i]'HM.out.hi = u) := ⟨_, rfl⟩
            have hcu : w8.cell? ⟨g, i * 2 + 1, none⟩ = some (.slice u.2.1 u.2.2.1 u.2.2.2) := by
              obtain ⟨b_, off_, hv, -, hx⟩ := HM.out.own.rd.nth (by omega)
              cases hv
              have := hx i HM.out.hi 1 (.slice u.2.1 u.2.2.1 u.2.2.2) (by rw [HU.out]; rfl)
              rw [Nat.zero_add] at this
              exact this
            have HUC : Hid (RdV w8 (.slice u.2.1 u.2.2.1 u.2.2.2) (ch ky)) := (show RdV _ _ _ by
              have := HM.out.ch u (by rw [← HU.out]; exact List.getElem_mem _)
              rw [← HU.out, HM.out.nm, HU.out] at this
              exact this)
            have hbv : ∀ W, (Instr.build 87 #[(0, .int .i64 m), (1, .string va), (2, .bool dd)]).run Try.prog W = .ok (.agg (VC (m, va, dd)).toArray) W := fun W => by kernel_rfl
            go_wp2_with fail
            refine wp_region_inv Try.mixed (KS (fun i_ => match i_ with | 0 | 1 | 2 => .val (.pointer (some ⟨R, 0, none⟩)) | 3 => .val (.slice (some ⟨g, 0, none⟩) n2 c2) | 4 => .val (.int .i64 (i : Int)) | 5 => .val (.pointer (some ⟨g, i * 2, none⟩)) | 6 => .val (.pointer (some ⟨g, i * 2 + 1, none⟩)) | 7 => .val (.slice u.2.1 u.2.2.1 u.2.2.2) | 8 => .val (.int .i64 m) | 9 => .val (.pointer (some ⟨E, 1, none⟩)) | 10 => .val (.string va) | 11 => .val (.pointer (some ⟨E, 2, none⟩)) | 12 => .val (.bool dd) | 13 => .val (.agg (VC (m, va, dd)).toArray) | 14 | 15 => .of (fun W x => ∃ y : Option Addr × Nat × Nat, x = .tuple #[.slice y.1 y.2.1 y.2.2, .bool true] ∧ OwnV W w8.heap.size 87 (.slice y.1 y.2.1 y.2.2) (ch ky ++ [verOf m (ky, va, dd)])) (fun _ _ _ hg h => by obtain ⟨y, h1, h2⟩ := h; exact ⟨y, h1, h2.kept hg⟩) | 16 | 18 => .of (fun W x => ∃ y : Option Addr × Nat × Nat, x = .slice y.1 y.2.1 y.2.2 ∧ OwnV W w8.heap.size 87 (.slice y.1 y.2.1 y.2.2) (ch ky ++ [verOf m (ky, va, dd)])) (fun _ _ _ hg h => by obtain ⟨y, h1, h2⟩ := h; exact ⟨y, h1, h2.kept hg⟩) | 17 | 19 => .val (.bool true) | _ => .free)) 99 rfl (by decide +kernel) (KS_mono _) ?_ ?_
            · refine AllFrom.cons (fun a' w' hg hk hd => ?_) (AllFrom.cons (fun a' w' hg hk hd => ?_) (AllFrom.cons (fun a' w' hg hk hd => ?_) (AllFrom.cons (fun a' w' hg hk hd => ?_) (AllFrom.cons (fun a' w' hg hk hd => ?_) (AllFrom.cons (fun a' w' hg hk hd => ?_) (AllFrom.cons (fun a' w' hg hk hd => ?_) (AllFrom.cons (fun a' w' hg hk hd => ?_) (AllFrom.cons (fun a' w' hg hk hd => ?_) (AllFrom.cons (fun a' w' hg hk hd => ?_) (AllFrom.cons (fun a' w' hg hk hd => ?_) (AllFrom.cons (fun a' w' hg hk hd => ?_) (AllFrom.cons (fun a' w' hg hk hd => ?_) (AllFrom.cons (fun a' w' hg hk hd => ?_) (AllFrom.cons (fun a' w' hg hk hd => ?_) (AllFrom.cons (fun a' w' hg hk hd => ?_) (AllFrom.cons (fun a' w' hg hk hd => ?_) (AllFrom.cons (fun a' w' hg hk hd => ?_) (AllFrom.cons (fun a' w' hg hk hd => ?_) (AllFrom.cons (fun a' w' hg hk hd => ?_) AllFrom.nil)))))))))))))))))))
              · -- 0: Op.move (Operand.tmp 0)
                intro Q
                have e0 : a'.eval (.tmp 0) = .pointer (some ⟨R, 0, none⟩) := hk.at 0 (by decide +kernel)
                exact wp_value _ (by simp only [execOp, e0]; rfl) (KS_mkv rfl rfl)
              · -- 1: Op.nilCheck (Operand.tmp 74)
                intro Q
                have e74 : a'.eval (.tmp 74) = .pointer (some ⟨R, 0, none⟩) := KS_val (Deps.val hd 0 74 (by decide +kernel)) rfl
                clear hd hk
                exact wp_value (.pointer (some ⟨R, 0, none⟩)) (by simp only [execOp, e74]; go_simp) (KS_mkv rfl rfl)
              · -- 2: Op.fieldAddr 30 (Operand.tmp 75) 0
                intro Q
                have e75 : a'.eval (.tmp 75) = .pointer (some ⟨R, 0, none⟩) := KS_val (Deps.val hd 1 75 (by decide +kernel)) rfl
                clear hd hk
                exact wp_value (.pointer (some ⟨R, 0, none⟩)) (by simp only [execOp, e75]; go_simp) (KS_mkv rfl rfl)
              · -- 3: Op.load 28 (Operand.tmp 76)
                intro Q
                have e76 : a'.eval (.tmp 76) = .pointer (some ⟨R, 0, none⟩) := KS_val (Deps.val hd 2 76 (by decide +kernel)) rfl
                have c_ : w'.cell? ⟨R, 0, none⟩ = some (.slice (some ⟨g, 0, none⟩) n2 c2) := (HM.out.d.kept hg).cell (j := 0) rfl
                clear hd hk
                exact wp_value (.slice (some ⟨g, 0, none⟩) n2 c2) (by simp only [execOp, e76]; go_simp) (KS_mkv rfl rfl)
              · -- 4: Op.move (Operand.tmp 6)
                intro Q
                have e6 : a'.eval (.tmp 6) = .int .i64 (i : Int) := hk.at 6 (by decide +kernel)
                exact wp_value _ (by simp only [execOp, e6]; rfl) (KS_mkv rfl rfl)
              · -- 5: Op.indexAddr 28 (Operand.tmp 77) (Operand.tmp 78)
                intro Q
                have e77 : a'.eval (.tmp 77) = .slice (some ⟨g, 0, none⟩) n2 c2 := KS_val (Deps.val hd 3 77 (by decide +kernel)) rfl
                have e78 : a'.eval (.tmp 78) = .int .i64 (i : Int) := KS_val (Deps.val hd 4 78 (by decide +kernel)) rfl
                clear hd hk
                exact wp_value (.pointer (some ⟨g, i * 2, none⟩)) (by simp only [execOp, e77, e78]; go_simp) (KS_mkv rfl rfl)
              · -- 6: Op.fieldAddr 69 (Operand.tmp 79) 1
                intro Q
                have e79 : a'.eval (.tmp 79) = .pointer (some ⟨g, i * 2, none⟩) := KS_val (Deps.val hd 5 79 (by decide +kernel)) rfl
                clear hd hk
                exact wp_value (.pointer (some ⟨g, i * 2 + 1, none⟩)) (by simp only [execOp, e79]; go_simp) (KS_mkv rfl rfl)
              · -- 7: Op.load 67 (Operand.tmp 80)
                intro Q
                have e80 : a'.eval (.tmp 80) = .pointer (some ⟨g, i * 2 + 1, none⟩) := KS_val (Deps.val hd 6 80 (by decide +kernel)) rfl
                have c_ : w'.cell? ⟨g, i * 2 + 1, none⟩ = some (.slice u.2.1 u.2.2.1 u.2.2.2) := (Below.cell hg (p := ⟨g, i * 2 + 1, none⟩) hgl).trans hcu
                clear hd hk
                exact wp_value (.slice u.2.1 u.2.2.1 u.2.2.2) (by simp only [execOp, e80]; go_simp) (KS_mkv rfl rfl)
              · -- 8: Op.move (Operand.tmp 2)
                intro Q
                have e2 : a'.eval (.tmp 2) = .int .i64 m := hk.at 2 (by decide +kernel)
                exact wp_value _ (by simp only [execOp, e2]; rfl) (KS_mkv rfl rfl)
              · -- 9: Op.fieldAddr 49 (Operand.tmp 4) 1
                intro Q
                have e4 : a'.eval (.tmp 4) = .pointer (some ⟨E, 0, none⟩) := hk.at 4 (by decide +kernel)
                clear hd hk
                exact wp_value (.pointer (some ⟨E, 1, none⟩)) (by simp only [execOp, e4]; go_simp) (KS_mkv rfl rfl)
              · -- 10: Op.load 9 (Operand.tmp 83)
                intro Q
                have e83 : a'.eval (.tmp 83) = .pointer (some ⟨E, 1, none⟩) := KS_val (Deps.val hd 9 83 (by decide +kernel)) rfl
                have c_ : w'.cell? ⟨E, 1, none⟩ = some (.string va) := (B7.out.kept hg).cell (j := 1) rfl
                clear hd hk
                exact wp_value (.string va) (by simp only [execOp, e83]; go_simp) (KS_mkv rfl rfl)
              · -- 11: Op.fieldAddr 49 (Operand.tmp 4) 2
                intro Q
                have e4 : a'.eval (.tmp 4) = .pointer (some ⟨E, 0, none⟩) := hk.at 4 (by decide +kernel)
                clear hd hk
                exact wp_value (.pointer (some ⟨E, 2, none⟩)) (by simp only [execOp, e4]; go_simp) (KS_mkv rfl rfl)
              · -- 12: Op.load 4 (Operand.tmp 85)
                intro Q
                have e85 : a'.eval (.tmp 85) = .pointer (some ⟨E, 2, none⟩) := KS_val (Deps.val hd 11 85 (by decide +kernel)) rfl
                have c_ : w'.cell? ⟨E, 2, none⟩ = some (.bool dd) := (B7.out.kept hg).cell (j := 2) rfl
                clear hd hk
                exact wp_value (.bool dd) (by simp only [execOp, e85]; go_simp) (KS_mkv rfl rfl)
              · -- 13: Op.build 87 #[(0, Operand.tmp 82), (1, Operand.tmp 84), (2, 
                intro Q
                have e82 : a'.eval (.tmp 82) = .int .i64 m := KS_val (Deps.val hd 8 82 (by decide +kernel)) rfl
                have e84 : a'.eval (.tmp 84) = .string va := KS_val (Deps.val hd 10 84 (by decide +kernel)) rfl
                have e86 : a'.eval (.tmp 86) = .bool dd := KS_val (Deps.val hd 12 86 (by decide +kernel)) rfl
                clear hd hk
                exact wp_value (.agg (VC (m, va, dd)).toArray) (by simp only [execOp, List.map_toArray, List.map_cons, List.map_nil, e82, e84, e86, hbv, Sem.run_bind, Sem.run_pure, Result.andThen_ok]) (KS_mkv rfl rfl)
              · -- 14: Op.call ( callee := Callee.value (Operand.func 59), args := 
                intro Q
                have e81 : a'.eval (.tmp 81) = .slice u.2.1 u.2.2.1 u.2.2.2 := KS_val (Deps.val hd 7 81 (by decide +kernel)) rfl
                have e87 : a'.eval (.tmp 87) = .agg (VC (m, va, dd)).toArray := KS_val (Deps.val hd 13 87 (by decide +kernel)) rfl
                refine wp_call 59 _ (run_enter 59 _ _ rfl (by kernel_rfl)) ?_
                simp only [List.map_toArray, List.map_nil, List.map_cons, e81, e87]
                refine (kput_own (HUC.out.kept hg) (by omega) (m, va, dd) HP.out).mono ?_
                rintro e_ w_ ⟨v_, rfl, ho_, hb_⟩
                rw [show putP (ch ky) (m, va, dd) = ch ky ++ [verOf m (ky, va, dd)] from putP_ok HP.out] at ho_
                obtain ⟨y, rfl⟩ := ho_.form
                exact ⟨_, rfl, KS_mko rfl ⟨y, rfl, ho_.mono hg.size⟩, hb_⟩
              · -- 15: Op.move (Operand.tmp 88)
                intro Q
                have r88 := KS_of (Deps.val hd 14 88 (by decide +kernel)) rfl
                exact wp_value (a'.eval (.tmp 88)) (by simp only [execOp]; rfl) (KS_mko rfl r88)
              · -- 16: Op.extract (Operand.tmp 73) 0
                intro Q
                have r73 := KS_of (Deps.val hd 15 73 (by decide +kernel)) rfl
                obtain ⟨y, e73, o73⟩ := r73
                exact wp_value (.slice y.1 y.2.1 y.2.2) (by simp only [execOp, e73]; rfl) (KS_mko rfl ⟨y, rfl, o73⟩)
              · -- 17: Op.extract (Operand.tmp 73) 1
                intro Q
                have r73 := KS_of (Deps.val hd 15 73 (by decide +kernel)) rfl
                obtain ⟨y, e73, o73⟩ := r73
                exact wp_value (.bool true) (by simp only [execOp, e73]; rfl) (KS_mkv rfl rfl)
              · -- 18: Op.assign (Operand.tmp 89)
                intro Q
                have r89 := KS_of (Deps.val hd 16 89 (by decide +kernel)) rfl
                exact wp_value (a'.eval (.tmp 89)) (by simp only [execOp]; rfl) (KS_mko rfl r89)
              · -- 19: Op.assign (Operand.tmp 90)
                intro Q
                have e90 : a'.eval (.tmp 90) = .bool true := KS_val (Deps.val hd 17 90 (by decide +kernel)) rfl
                exact wp_value _ (by simp only [execOp, e90]; rfl) (KS_mkv rfl rfl)
            · intro a' wb hsz hdf hk hall hg
              have e74 : a'.eval (.tmp 74) = .pointer (some ⟨R, 0, none⟩) := KS_val (hall 0 _ 74 rfl rfl) rfl
              have e75 : a'.eval (.tmp 75) = .pointer (some ⟨R, 0, none⟩) := KS_val (hall 1 _ 75 rfl rfl) rfl
              have e76 : a'.eval (.tmp 76) = .pointer (some ⟨R, 0, none⟩) := KS_val (hall 2 _ 76 rfl rfl) rfl
              have e77 : a'.eval (.tmp 77) = .slice (some ⟨g, 0, none⟩) n2 c2 := KS_val (hall 3 _ 77 rfl rfl) rfl
              have e78 : a'.eval (.tmp 78) = .int .i64 (i : Int) := KS_val (hall 4 _ 78 rfl rfl) rfl
              have e79 : a'.eval (.tmp 79) = .pointer (some ⟨g, i * 2, none⟩) := KS_val (hall 5 _ 79 rfl rfl) rfl
              have e80 : a'.eval (.tmp 80) = .pointer (some ⟨g, i * 2 + 1, none⟩) := KS_val (hall 6 _ 80 rfl rfl) rfl
              have e81 : a'.eval (.tmp 81) = .slice u.2.1 u.2.2.1 u.2.2.2 := KS_val (hall 7 _ 81 rfl rfl) rfl
              have e82 : a'.eval (.tmp 82) = .int .i64 m := KS_val (hall 8 _ 82 rfl rfl) rfl
              have e83 : a'.eval (.tmp 83) = .pointer (some ⟨E, 1, none⟩) := KS_val (hall 9 _ 83 rfl rfl) rfl
              have e84 : a'.eval (.tmp 84) = .string va := KS_val (hall 10 _ 84 rfl rfl) rfl
              have e85 : a'.eval (.tmp 85) = .pointer (some ⟨E, 2, none⟩) := KS_val (hall 11 _ 85 rfl rfl) rfl
              have e86 : a'.eval (.tmp 86) = .bool dd := KS_val (hall 12 _ 86 rfl rfl) rfl
              have e87 : a'.eval (.tmp 87) = .agg (VC (m, va, dd)).toArray := KS_val (hall 13 _ 87 rfl rfl) rfl
              have r88 := KS_of (hall 14 _ 88 rfl rfl) rfl
              obtain ⟨x88, e88⟩ : ∃ v, a'.eval (.tmp 88) = v := ⟨_, rfl⟩
              rw [e88] at r88
              have r73 := KS_of (hall 15 _ 73 rfl rfl) rfl
              obtain ⟨x73, e73⟩ : ∃ v, a'.eval (.tmp 73) = v := ⟨_, rfl⟩
              rw [e73] at r73
              have r89 := KS_of (hall 16 _ 89 rfl rfl) rfl
              obtain ⟨x89, e89⟩ : ∃ v, a'.eval (.tmp 89) = v := ⟨_, rfl⟩
              rw [e89] at r89
              have e90 : a'.eval (.tmp 90) = .bool true := KS_val (hall 17 _ 90 rfl rfl) rfl
              have r7 := KS_of (hall 18 _ 7 rfl rfl) rfl
              obtain ⟨x7, e7⟩ : ∃ v, a'.eval (.tmp 7) = v := ⟨_, rfl⟩
              rw [e7] at r7
              have e8 : a'.eval (.tmp 8) = .bool true := KS_val (hall 19 _ 8 rfl rfl) rfl
              have ha := act_puts 99 rfl hsz hdf hk [74, 75, 76, 77, 78, 79, 80, 81, 82, 83, 84, 85, 86, 87, 88, 73, 89, 90, 7, 8] (by decide +kernel)
              simp only [puts, List.foldl_cons, List.foldl_nil, e74, e75, e76, e77, e78, e79, e80, e81, e82, e83, e84, e85, e86, e87, e88, e73, e89, e90, e7, e8] at ha
              simp only [Act.put, List.setIfInBounds_toArray, List.set_cons_succ, List.set_cons_zero] at ha
              clear hall hk hsz hdf r88 r73 r89 e74 e75 e76 e77 e78 e79 e80 e81 e82 e83 e84 e85 e86 e87 e88 e73 e89 e90 e7 e8
              subst ha
              obtain ⟨y, rfl, o7⟩ := r7
              have HO := hide o7
              have GB := hide hg
              clear o7 hg hbv
              have HD := hide (HM.out.done (p := (ky, va, dd)) (m := m) (y := y) GB.out HO.out)
              have hcb : wb.cell? ⟨g, i * 2 + 1, none⟩ = some (.slice u.2.1 u.2.2.1 u.2.2.2) := (Below.cell GB.out (p := ⟨g, i * 2 + 1, none⟩) hgl).trans hcu
              have hfb : wb.frozen? ⟨g, i * 2 + 1, none⟩ = false := by
                obtain ⟨g_, c_, cur, hv, -, hb_, -⟩ := (HM.out.kept GB.out).own.blk (Nat.lt_of_le_of_lt (Nat.zero_le _) HM.out.hi)
                cases hv
                exact hb_.frozen _
              have hcR : wb.cell? ⟨R, 0, none⟩ = some (.slice (some ⟨g, 0, none⟩) n2 c2) := (HM.out.d.kept GB.out).cell (j := 0) rfl
              have hq2 : (i : Int) < (n2 : Int) := by omega
              clear hcu
              go_wp2_with fail
              refine bodyPost_end (results_none rfl _ _ _) rfl ?_
              obtain ⟨rs', h1, h2, h3, h4, h5⟩ := HD.out
              exact ⟨rfl, _, rs', h1, h2, h3, HN.out ▸ h4, h5⟩
    · obtain rfl : i = i0 := by omega
      obtain rfl : i = n_ := by omega
      have q2 : decide ((i : Int) < (i : Int)) = false := by simp
      have q5' : ((i : Int) == (i : Int)) = true := by simp
      go_upto_region 2 with fail
      refine wp_region_quiet_below Try.mixed (by kernel_rfl) ?_
      repeat (go_big_quiet_step (fail))
      refine wpQuiet_nil ?_
      intro w5 hw5
      have D5 : Hid (Below wr.heap.size wr w5) := (show Below _ _ _ by obtain ⟨⟨dq, osq⟩, rfl⟩ := hw5; exact below_regrown wr dq osq)
      have L5 : Hid (Below w.heap.size w w5) := LR.out.trans (D5.out.mono LR.out.size)
      have B5 := hide (BR.out.kept D5.out)
      have k0' := cell_regrown ((HS.out.d.kept L5.out).cell (j := 0) rfl)
      have kE' := cell_regrown (B5.out.cell (j := 0) rfl)
      simp only at k0' kE'
      clear hw5 k0 kE
      go_upto_region 4 with fail
      have HK : Hid (ky ∉ rs.map (·.1)) := (show _ from fun hm => by
        obtain ⟨y, hy, e1⟩ := List.mem_map.1 hm
        obtain ⟨j, hj, rfl⟩ := List.getElem_of_mem hy
        have h1 := HLT.out j hj
        rw [e1, lt_irrefl] at h1
        have := of_decide_eq_false h1.symm
        have := HN.out
        omega)
      refine wp_region_quiet_below Try.mixed (by kernel_rfl) ?_
      repeat (go_big_quiet_step (fail))
      refine wpQuiet_nil ?_
      intro w6 hw6
      have D6 : Hid (Below w5.heap.size w5 w6) := (show Below _ _ _ by obtain ⟨⟨dq, osq⟩, rfl⟩ := hw6; exact below_regrown w5 dq osq)
      have L6 : Hid (Below w.heap.size w w6) := L5.out.trans (D6.out.mono L5.out.size)
      have B6 := hide (B5.out.kept D6.out)
      clear hw6 k0' kE'
      go_wp2_with fail
      obtain ⟨a2, hs2, -, hs3⟩ := slice_G (E := RKE) (P := Try.prog) Try.underlying28 Try.size69 (a) i cp i (by omega) hcp
      obtain ⟨hs1, hs4⟩ := slice_G_cap (E := RKE) (P := Try.prog) Try.underlying28 Try.size69 (a) i cp i (by omega) hcp
      have hbd : ∀ W, (Instr.build 69 #[(0, .string ky)]).run Try.prog W = .ok (.agg #[.string ky, .slice none 0 0]) W := fun W => by kernel_rfl
      have hbs : ∀ W, (Instr.buildSlice 28 1 #[(0, .agg #[.string ky, .slice none 0 0])]).run Try.prog W = .ok (.slice (some ⟨W.heap.size, 0, none⟩) 1 1) (W.alloc (.cells #[.string ky, .slice none 0 0] 69 (0, 0))) := fun W => by kernel_rfl
      obtain ⟨ti, hti, hz0, hz1, hz2⟩ := info_parts Try.info69
      refine wp_region_tails Try.mixed (KS (fun i_ => match i_ with | 0 | 1 | 2 | 3 | 12 | 13 | 14 | 20 | 21 => .val (.pointer (some ⟨R, 0, none⟩)) | 4 | 15 => .val (.slice a i cp) | 5 | 6 | 16 => .val (.int .i64 (i : Int)) | 7 => .val (.slice (a) i i) | 8 => .val (.pointer (some ⟨E, 0, none⟩)) | 9 => .val (.string ky) | 10 => .val (.agg #[.string ky, .slice none 0 0]) | 11 => .of (fun W x => ∃ g, x = .slice (some g) 1 1 ∧ RdG RKE W x [((ky, none, 0, 0) : RK)]) (fun _ _ _ hg h => by obtain ⟨g, h1, h2⟩ := h; exact ⟨g, h1, h2.kept hg⟩) | 17 => .val (.slice a2 (i - i) (cp - i)) | 18 => .of (fun W x => RdG RKE W x ([((ky, none, 0, 0) : RK)] ++ rs.drop i)) (fun _ _ _ hg h => RdG.kept h hg) | 19 => .of (fun W x => OwnG RKE W w.heap.size 69 x (rs.take i ++ ([((ky, none, 0, 0) : RK)] ++ rs.drop i))) (fun _ _ _ hg h => OwnG.kept h hg) | _ => .free)) 99 rfl (by decide +kernel) 22 (by decide) (by decide +kernel) (KS_mono _) ?_ ?_
      · refine AllFrom.cons ⟨rfl, fun a' w' hg hk hd Q => ?_⟩ (AllFrom.cons ⟨rfl, fun a' w' hg hk hd Q => ?_⟩ (AllFrom.cons ⟨rfl, fun a' w' hg hk hd Q => ?_⟩ (AllFrom.cons ⟨rfl, fun a' w' hg hk hd Q => ?_⟩ (AllFrom.cons ⟨rfl, fun a' w' hg hk hd Q => ?_⟩ (AllFrom.cons ⟨rfl, fun a' w' hg hk hd Q => ?_⟩ (AllFrom.cons ⟨rfl, fun a' w' hg hk hd Q => ?_⟩ (AllFrom.cons ⟨rfl, fun a' w' hg hk hd Q => ?_⟩ (AllFrom.cons ⟨rfl, fun a' w' hg hk hd Q => ?_⟩ (AllFrom.cons ⟨rfl, fun a' w' hg hk hd Q => ?_⟩ (AllFrom.cons ⟨rfl, fun a' w' hg hk hd Q => ?_⟩ (AllFrom.cons ⟨rfl, fun a' w' hg hk hd Q => ?_⟩ (AllFrom.cons ⟨rfl, fun a' w' hg hk hd Q => ?_⟩ (AllFrom.cons ⟨rfl, fun a' w' hg hk hd Q => ?_⟩ (AllFrom.cons ⟨rfl, fun a' w' hg hk hd Q => ?_⟩ (AllFrom.cons ⟨rfl, fun a' w' hg hk hd Q => ?_⟩ (AllFrom.cons ⟨rfl, fun a' w' hg hk hd Q => ?_⟩ (AllFrom.cons ⟨rfl, fun a' w' hg hk hd Q => ?_⟩ (AllFrom.cons ⟨rfl, fun a' w' hg hk hd Q => ?_⟩ (AllFrom.cons ⟨rfl, fun a' w' hg hk hd Q => ?_⟩ (AllFrom.cons ⟨rfl, fun a' w' hg hk hd Q => ?_⟩ (AllFrom.cons ⟨rfl, fun a' w' hg hk hd Q => ?_⟩ AllFrom.nil)))))))))))))))))))))
        · -- 0: Op.move (Operand.tmp 0)
          have e0 : a'.eval (.tmp 0) = .pointer (some ⟨R, 0, none⟩) := hk.at 0 (by decide +kernel)
          exact wp_value _ (by simp only [execOp, e0]; rfl) (KS_mkv rfl rfl)
        · -- 1: Op.move (Operand.tmp 0)
          have e0 : a'.eval (.tmp 0) = .pointer (some ⟨R, 0, none⟩) := hk.at 0 (by decide +kernel)
          exact wp_value _ (by simp only [execOp, e0]; rfl) (KS_mkv rfl rfl)
        · -- 2: Op.nilCheck (Operand.tmp 52)
          have e52 : a'.eval (.tmp 52) = .pointer (some ⟨R, 0, none⟩) := KS_val (Deps.val hd 1 52 (by decide +kernel)) rfl
          clear hd hk
          exact wp_value (.pointer (some ⟨R, 0, none⟩)) (by simp only [execOp, e52]; go_simp) (KS_mkv rfl rfl)
        · -- 3: Op.fieldAddr 30 (Operand.tmp 53) 0
          have e53 : a'.eval (.tmp 53) = .pointer (some ⟨R, 0, none⟩) := KS_val (Deps.val hd 2 53 (by decide +kernel)) rfl
          clear hd hk
          exact wp_value (.pointer (some ⟨R, 0, none⟩)) (by simp only [execOp, e53]; go_simp) (KS_mkv rfl rfl)
        · -- 4: Op.load 28 (Operand.tmp 54)
          have e54 : a'.eval (.tmp 54) = .pointer (some ⟨R, 0, none⟩) := KS_val (Deps.val hd 3 54 (by decide +kernel)) rfl
          have c_ : w'.cell? ⟨R, 0, none⟩ = some (.slice a i cp) := ((HS.out.d.kept L6.out).kept hg).cell (j := 0) rfl
          clear hd hk
          exact wp_value (.slice a i cp) (by simp only [execOp, e54]; go_simp) (KS_mkv rfl rfl)
        · -- 5: Op.move (Operand.tmp 6)
          have e6 : a'.eval (.tmp 6) = .int .i64 (i : Int) := hk.at 6 (by decide +kernel)
          exact wp_value _ (by simp only [execOp, e6]; rfl) (KS_mkv rfl rfl)
        · -- 6: Op.move (Operand.tmp 6)
          have e6 : a'.eval (.tmp 6) = .int .i64 (i : Int) := hk.at 6 (by decide +kernel)
          exact wp_value _ (by simp only [execOp, e6]; rfl) (KS_mkv rfl rfl)
        · -- 7: Op.slice 28 (Operand.tmp 55) none (some (Operand.tmp 56)) (s
          have e55 : a'.eval (.tmp 55) = .slice a i cp := KS_val (Deps.val hd 4 55 (by decide +kernel)) rfl
          have e56 : a'.eval (.tmp 56) = .int .i64 (i : Int) := KS_val (Deps.val hd 5 56 (by decide +kernel)) rfl
          have e57 : a'.eval (.tmp 57) = .int .i64 (i : Int) := KS_val (Deps.val hd 6 57 (by decide +kernel)) rfl
          clear hd hk
          exact wp_value _ (by simp only [execOp, Option.map_some, Option.map_none, e55, e56, e57, hs1, Sem.run_bind, Sem.run_pure, Result.andThen_ok]) (KS_mkv rfl rfl)
        · -- 8: Op.fieldAddr 49 (Operand.tmp 4) 0
          have e4 : a'.eval (.tmp 4) = .pointer (some ⟨E, 0, none⟩) := hk.at 4 (by decide +kernel)
          clear hd hk
          exact wp_value (.pointer (some ⟨E, 0, none⟩)) (by simp only [execOp, e4]; go_simp) (KS_mkv rfl rfl)
        · -- 9: Op.load 9 (Operand.tmp 59)
          have e59 : a'.eval (.tmp 59) = .pointer (some ⟨E, 0, none⟩) := KS_val (Deps.val hd 8 59 (by decide +kernel)) rfl
          have c_ : w'.cell? ⟨E, 0, none⟩ = some (.string ky) := (B6.out.kept hg).cell (j := 0) rfl
          clear hd hk
          exact wp_value (.string ky) (by simp only [execOp, e59]; go_simp) (KS_mkv rfl rfl)
        · -- 10: Op.build 69 #[(0, Operand.tmp 60)]
          have e60 : a'.eval (.tmp 60) = .string ky := KS_val (Deps.val hd 9 60 (by decide +kernel)) rfl
          clear hd hk
          exact wp_value (.agg #[.string ky, .slice none 0 0]) (by simp only [execOp, List.map_toArray, List.map_cons, List.map_nil, e60, hbd, Sem.run_bind, Sem.run_pure, Result.andThen_ok]) (KS_mkv rfl rfl)
        · -- 11: Op.buildSlice 28 1 #[(0, Operand.tmp 61)]
          have e61 : a'.eval (.tmp 61) = .agg #[.string ky, .slice none 0 0] := KS_val (Deps.val hd 10 61 (by decide +kernel)) rfl
          refine wp_grow (.slice (some ⟨w'.heap.size, 0, none⟩) 1 1) (w'.alloc (.cells (RKC ((ky, none, 0, 0) : RK)).toArray 69 (0, 0))) ?_ ((Below.refl _ _).alloc (Nat.le_refl _) _) (KS_mko rfl ⟨_, rfl, rdG_one (E := RKE) w' 69 ((ky, none, 0, 0) : RK)⟩)
          have hr_ := hbs w'
          simp only [execOp, List.map_toArray, List.map_cons, List.map_nil, e61, hr_, Sem.run_bind, Sem.run_pure, Result.andThen_ok]
          rfl
        · -- 12: Op.move (Operand.tmp 0)
          have e0 : a'.eval (.tmp 0) = .pointer (some ⟨R, 0, none⟩) := hk.at 0 (by decide +kernel)
          exact wp_value _ (by simp only [execOp, e0]; rfl) (KS_mkv rfl rfl)
        · -- 13: Op.nilCheck (Operand.tmp 63)
          have e63 : a'.eval (.tmp 63) = .pointer (some ⟨R, 0, none⟩) := KS_val (Deps.val hd 12 63 (by decide +kernel)) rfl
          clear hd hk
          exact wp_value (.pointer (some ⟨R, 0, none⟩)) (by simp only [execOp, e63]; go_simp) (KS_mkv rfl rfl)
        · -- 14: Op.fieldAddr 30 (Operand.tmp 64) 0
          have e64 : a'.eval (.tmp 64) = .pointer (some ⟨R, 0, none⟩) := KS_val (Deps.val hd 13 64 (by decide +kernel)) rfl
          clear hd hk
          exact wp_value (.pointer (some ⟨R, 0, none⟩)) (by simp only [execOp, e64]; go_simp) (KS_mkv rfl rfl)
        · -- 15: Op.load 28 (Operand.tmp 65)
          have e65 : a'.eval (.tmp 65) = .pointer (some ⟨R, 0, none⟩) := KS_val (Deps.val hd 14 65 (by decide +kernel)) rfl
          have c_ : w'.cell? ⟨R, 0, none⟩ = some (.slice a i cp) := ((HS.out.d.kept L6.out).kept hg).cell (j := 0) rfl
          clear hd hk
          exact wp_value (.slice a i cp) (by simp only [execOp, e65]; go_simp) (KS_mkv rfl rfl)
        · -- 16: Op.move (Operand.tmp 6)
          have e6 : a'.eval (.tmp 6) = .int .i64 (i : Int) := hk.at 6 (by decide +kernel)
          exact wp_value _ (by simp only [execOp, e6]; rfl) (KS_mkv rfl rfl)
        · -- 17: Op.slice 28 (Operand.tmp 66) (some (Operand.tmp 67)) none no
          have e66 : a'.eval (.tmp 66) = .slice a i cp := KS_val (Deps.val hd 15 66 (by decide +kernel)) rfl
          have e67 : a'.eval (.tmp 67) = .int .i64 (i : Int) := KS_val (Deps.val hd 16 67 (by decide +kernel)) rfl
          clear hd hk
          exact wp_value _ (by simp only [execOp, Option.map_some, Option.map_none, e66, e67, hs2, Sem.run_bind, Sem.run_pure, Result.andThen_ok]) (KS_mkv rfl rfl)
        · -- 18: Op.call ( callee := Callee.builtin Builtin.append, args := #
          have r62 := KS_of (Deps.val hd 11 62 (by decide +kernel)) rfl
          have e68 : a'.eval (.tmp 68) = .slice a2 (i - i) (cp - i) := KS_val (Deps.val hd 17 68 (by decide +kernel)) rfl
          obtain ⟨g_, eg_, hg_⟩ := r62
          rw [eg_] at hg_
          obtain ⟨v_, w_, hr_, h2_, h3_⟩ := run_append_rd (E := RKE) (P := Try.prog) w' 28 28 28 69 ti (.agg #[.string ⟨#[]⟩, .slice none 0 0]) 40 Try.underlying28 hti hz0 hz1 hz2 rfl g_ 1 _ hg_ (.slice a2 (i - i) (cp - i)) (rs.drop i) ((hs3 _ _ (((HS.out.own.rd).kept L6.out).kept hg)).src 28 69 Try.underlying28) (by rw [List.length_drop, HN.out]; simp only [maxLen]; omega) (by rw [List.length_drop, HN.out]; omega)
          refine wp_grow v_ w_ ?_ h3_ (KS_mko rfl h2_)
          simp only [execOp, resolve, invoke, builtin, Sem.run_bind, Sem.run_pure, Result.andThen_ok, List.map_toArray, List.map_cons, List.map_nil, eg_, e68, hr_]
        · -- 19: Op.call ( callee := Callee.builtin Builtin.append, args := #
          have e58 : a'.eval (.tmp 58) = .slice (a) i i := KS_val (Deps.val hd 7 58 (by decide +kernel)) rfl
          have r69 := KS_of (Deps.val hd 18 69 (by decide +kernel)) rfl
          have hlr_ : ([((ky, none, 0, 0) : RK)] ++ rs.drop i).length = 1 + (i - i) := by rw [List.length_append, List.length_drop, HN.out]; rfl
          obtain ⟨v_, w_, hr_, h2_, h3_, -⟩ := run_append_full (E := RKE) (P := Try.prog) w' w.heap.size 28 28 28 69 ti (.agg #[.string ⟨#[]⟩, .slice none 0 0]) 40 Try.underlying28 hti hz0 hz1 hz2 rfl (a) i _ (hs4 _ _ (((HS.out.own.rd).kept L6.out).kept hg)) (a'.eval (.tmp 69)) ([((ky, none, 0, 0) : RK)] ++ rs.drop i) (r69.src 28 69 Try.underlying28) (by rw [hlr_]; omega) (by rw [hlr_]; simp only [maxLen]; omega) (by rw [hlr_]; omega) (Nat.le_trans L6.out.size hg.size)
          refine wp_grow v_ w_ ?_ h3_ (KS_mko rfl h2_)
          simp only [execOp, resolve, invoke, builtin, Sem.run_bind, Sem.run_pure, Result.andThen_ok, List.map_toArray, List.map_cons, List.map_nil, e58, hr_]
        · -- 20: Op.nilCheck (Operand.tmp 51)
          have e51 : a'.eval (.tmp 51) = .pointer (some ⟨R, 0, none⟩) := KS_val (Deps.val hd 0 51 (by decide +kernel)) rfl
          clear hd hk
          exact wp_value (.pointer (some ⟨R, 0, none⟩)) (by simp only [execOp, e51]; go_simp) (KS_mkv rfl rfl)
        · -- 21: Op.fieldAddr 30 (Operand.tmp 71) 0
          have e71 : a'.eval (.tmp 71) = .pointer (some ⟨R, 0, none⟩) := KS_val (Deps.val hd 20 71 (by decide +kernel)) rfl
          clear hd hk
          exact wp_value (.pointer (some ⟨R, 0, none⟩)) (by simp only [execOp, e71]; go_simp) (KS_mkv rfl rfl)
      · intro a' w7 hsz hdf hk hall hg
        have e51 : a'.eval (.tmp 51) = .pointer (some ⟨R, 0, none⟩) := KS_val (hall 0 _ 51 (by decide) rfl rfl) rfl
        have e52 : a'.eval (.tmp 52) = .pointer (some ⟨R, 0, none⟩) := KS_val (hall 1 _ 52 (by decide) rfl rfl) rfl
        have e53 : a'.eval (.tmp 53) = .pointer (some ⟨R, 0, none⟩) := KS_val (hall 2 _ 53 (by decide) rfl rfl) rfl
        have e54 : a'.eval (.tmp 54) = .pointer (some ⟨R, 0, none⟩) := KS_val (hall 3 _ 54 (by decide) rfl rfl) rfl
        have e55 : a'.eval (.tmp 55) = .slice a i cp := KS_val (hall 4 _ 55 (by decide) rfl rfl) rfl
        have e56 : a'.eval (.tmp 56) = .int .i64 (i : Int) := KS_val (hall 5 _ 56 (by decide) rfl rfl) rfl
        have e57 : a'.eval (.tmp 57) = .int .i64 (i : Int) := KS_val (hall 6 _ 57 (by decide) rfl rfl) rfl
        have e58 : a'.eval (.tmp 58) = .slice (a) i i := KS_val (hall 7 _ 58 (by decide) rfl rfl) rfl
        have e59 : a'.eval (.tmp 59) = .pointer (some ⟨E, 0, none⟩) := KS_val (hall 8 _ 59 (by decide) rfl rfl) rfl
        have e60 : a'.eval (.tmp 60) = .string ky := KS_val (hall 9 _ 60 (by decide) rfl rfl) rfl
        have e61 : a'.eval (.tmp 61) = .agg #[.string ky, .slice none 0 0] := KS_val (hall 10 _ 61 (by decide) rfl rfl) rfl
        have r62 := KS_of (hall 11 _ 62 (by decide) rfl rfl) rfl
        obtain ⟨x62, e62⟩ : ∃ v, a'.eval (.tmp 62) = v := ⟨_, rfl⟩
        rw [e62] at r62
        have e63 : a'.eval (.tmp 63) = .pointer (some ⟨R, 0, none⟩) := KS_val (hall 12 _ 63 (by decide) rfl rfl) rfl
        have e64 : a'.eval (.tmp 64) = .pointer (some ⟨R, 0, none⟩) := KS_val (hall 13 _ 64 (by decide) rfl rfl) rfl
        have e65 : a'.eval (.tmp 65) = .pointer (some ⟨R, 0, none⟩) := KS_val (hall 14 _ 65 (by decide) rfl rfl) rfl
        have e66 : a'.eval (.tmp 66) = .slice a i cp := KS_val (hall 15 _ 66 (by decide) rfl rfl) rfl
        have e67 : a'.eval (.tmp 67) = .int .i64 (i : Int) := KS_val (hall 16 _ 67 (by decide) rfl rfl) rfl
        have e68 : a'.eval (.tmp 68) = .slice a2 (i - i) (cp - i) := KS_val (hall 17 _ 68 (by decide) rfl rfl) rfl
        have r69 := KS_of (hall 18 _ 69 (by decide) rfl rfl) rfl
        obtain ⟨x69, e69⟩ : ∃ v, a'.eval (.tmp 69) = v := ⟨_, rfl⟩
        rw [e69] at r69
        have r70 := KS_of (hall 19 _ 70 (by decide) rfl rfl) rfl
        obtain ⟨x70, e70⟩ : ∃ v, a'.eval (.tmp 70) = v := ⟨_, rfl⟩
        rw [e70] at r70
        have e71 : a'.eval (.tmp 71) = .pointer (some ⟨R, 0, none⟩) := KS_val (hall 20 _ 71 (by decide) rfl rfl) rfl
        have e72 : a'.eval (.tmp 72) = .pointer (some ⟨R, 0, none⟩) := KS_val (hall 21 _ 72 (by decide) rfl rfl) rfl
        have HM : Hid (PMid w R (.slice a i cp) rs ch la fl ky i (w7.setCell ⟨R, 0, none⟩ x70) x70 (rs.take i ++ ([((ky, none, 0, 0) : RK)] ++ rs.drop i))) := HS.out.ins HK.out HI0.out (L6.out.trans (Below.mono hg L6.out.size)) r70
        have B7 := hide ((B6.out.kept hg).set_other (c := R) (by have := HS.out.d.lt; have := HE.out; omega) 0 x70)
        have cR_ := ((HS.out.d.kept L6.out).kept hg).cell (j := 0) rfl
        have fR_ := ((HS.out.d.kept L6.out).kept hg).frozen 0
        obtain ⟨xa, xn, xc, hx_⟩ : ∃ a n c, x70 = .slice a n c := by obtain ⟨xa, xc, h⟩ := r70.rd.slice; exact ⟨_, _, _, h⟩
        subst hx_
        refine ⟨rfl, ?_⟩
        unfold Oper.wp execOp
        simp only [Sem.run_bind, Sem.run_pure, e72, e70]
        go_simp
        show Exit.then _ _ Exit.normal _ _
        have ha := act_puts 99 rfl hsz hdf hk [51, 52, 53, 54, 55, 56, 57, 58, 59, 60, 61, 62, 63, 64, 65, 66, 67, 68, 69, 70, 71, 72] (by decide +kernel)
        simp only [puts, List.foldl_cons, List.foldl_nil, e51, e52, e53, e54, e55, e56, e57, e58, e59, e60, e61, e62, e63, e64, e65, e66, e67, e68, e69, e70, e71, e72] at ha
        simp only [Act.put, List.setIfInBounds_toArray, List.set_cons_succ, List.set_cons_zero] at ha
        clear hall hk hsz hdf hg r70 r62 r69 cR_ fR_ hs1 hs2 hs3 hs4 hbd hbs e51 e52 e53 e54 e55 e56 e57 e58 e59 e60 e61 e62 e63 e64 e65 e66 e67 e68 e69 e70 e71 e72
        subst ha
        obtain ⟨w8, hw8⟩ : ∃ x, x = w7.setCell ⟨R, 0, none⟩ (.slice xa xn xc) := ⟨_, rfl⟩
        rw [← hw8] at HM B7 ⊢
        clear hw8
        obtain ⟨g, n2, c2, ra, HM⟩ : ∃ g n2 c2 ra, Hid (PMid w R (.slice a i cp) rs ch la fl ky i w8 (.slice (some ⟨g, 0, none⟩) n2 c2) ra) := HM.out.row
        have hn2 : i < n2 := by have := HM.out.hi; rwa [HM.out.own.rd.len] at this
        have hgl : g < w8.heap.size := (HM.out.own.block (b := g) rfl).2.1
        obtain ⟨u, HU⟩ : ∃ u, Hid (ra[i]'HM.out.hi = u) := ⟨_, rfl⟩
        have hcu : w8.cell? ⟨g, i * 2 + 1, none⟩ = some (.slice u.2.1 u.2.2.1 u.2.2.2) := by
          obtain ⟨b_, off_, hv, -, hx⟩ := HM.out.own.rd.nth (by omega)
          cases hv
          have := hx i HM.out.hi 1 (.slice u.2.1 u.2.2.1 u.2.2.2) (by rw [HU.out]; rfl)
          rw [Nat.zero_add] at this
          exact this
        have HUC : Hid (RdV w8 (.slice u.2.1 u.2.2.1 u.2.2.2) (ch ky)) := (show RdV _ _ _ by
          have := HM.out.ch u (by rw [← HU.out]; exact List.getElem_mem _)
          rw [← HU.out, HM.out.nm, HU.out] at this
          exact this)
        have hbv : ∀ W, (Instr.build 87 #[(0, .int .i64 m), (1, .string va), (2, .bool dd)]).run Try.prog W = .ok (.agg (VC (m, va, dd)).toArray) W := fun W => by kernel_rfl
        go_wp2_with fail
        refine wp_region_inv Try.mixed (KS (fun i_ => match i_ with | 0 | 1 | 2 => .val (.pointer (some ⟨R, 0, none⟩)) | 3 => .val (.slice (some ⟨g, 0, none⟩) n2 c2) | 4 => .val (.int .i64 (i : Int)) | 5 => .val (.pointer (some ⟨g, i * 2, none⟩)) | 6 => .val (.pointer (some ⟨g, i * 2 + 1, none⟩)) | 7 => .val (.slice u.2.1 u.2.2.1 u.2.2.2) | 8 => .val (.int .i64 m) | 9 => .val (.pointer (some ⟨E, 1, none⟩)) | 10 => .val (.string va) | 11 => .val (.pointer (some ⟨E, 2, none⟩)) | 12 => .val (.bool dd) | 13 => .val (.agg (VC (m, va, dd)).toArray) | 14 | 15 => .of (fun W x => ∃ y : Option Addr × Nat × Nat, x = .tuple #[.slice y.1 y.2.1 y.2.2, .bool true] ∧ OwnV W w8.heap.size 87 (.slice y.1 y.2.1 y.2.2) (ch ky ++ [verOf m (ky, va, dd)])) (fun _ _ _ hg h => by obtain ⟨y, h1, h2⟩ := h; exact ⟨y, h1, h2.kept hg⟩) | 16 | 18 => .of (fun W x => ∃ y : Option Addr × Nat × Nat, x = .slice y.1 y.2.1 y.2.2 ∧ OwnV W w8.heap.size 87 (.slice y.1 y.2.1 y.2.2) (ch ky ++ [verOf m (ky, va, dd)])) (fun _ _ _ hg h => by obtain ⟨y, h1, h2⟩ := h; exact ⟨y, h1, h2.kept hg⟩) | 17 | 19 => .val (.bool true) | _ => .free)) 99 rfl (by decide +kernel) (KS_mono _) ?_ ?_
        · refine AllFrom.cons (fun a' w' hg hk hd => ?_) (AllFrom.cons (fun a' w' hg hk hd => ?_) (AllFrom.cons (fun a' w' hg hk hd => ?_) (AllFrom.cons (fun a' w' hg hk hd => ?_) (AllFrom.cons (fun a' w' hg hk hd => ?_) (AllFrom.cons (fun a' w' hg hk hd => ?_) (AllFrom.cons (fun a' w' hg hk hd => ?_) (AllFrom.cons (fun a' w' hg hk hd => ?_) (AllFrom.cons (fun a' w' hg hk hd => ?_) (AllFrom.cons (fun a' w' hg hk hd => ?_) (AllFrom.cons (fun a' w' hg hk hd => ?_) (AllFrom.cons (fun a' w' hg hk hd => ?_) (AllFrom.cons (fun a' w' hg hk hd => ?_) (AllFrom.cons (fun a' w' hg hk hd => ?_) (AllFrom.cons (fun a' w' hg hk hd => ?_) (AllFrom.cons (fun a' w' hg hk hd => ?_) (AllFrom.cons (fun a' w' hg hk hd => ?_) (AllFrom.cons (fun a' w' hg hk hd => ?_) (AllFrom.cons (fun a' w' hg hk hd => ?_) (AllFrom.cons (fun a' w' hg hk hd => ?_) AllFrom.nil)))))))))))))))))))
          · -- 0: Op.move (Operand.tmp 0)
            intro Q
            have e0 : a'.eval (.tmp 0) = .pointer (some ⟨R, 0, none⟩) := hk.at 0 (by decide +kernel)
            exact wp_value _ (by simp only [execOp, e0]; rfl) (KS_mkv rfl rfl)
          · -- 1: Op.nilCheck (Operand.tmp 74)
            intro Q
            have e74 : a'.eval (.tmp 74) = .pointer (some ⟨R, 0, none⟩) := KS_val (Deps.val hd 0 74 (by decide +kernel)) rfl
            clear hd hk
            exact wp_value (.pointer (some ⟨R, 0, none⟩)) (by simp only [execOp, e74]; go_simp) (KS_mkv rfl rfl)
          · -- 2: Op.fieldAddr 30 (Operand.tmp 75) 0
            intro Q
            have e75 : a'.eval (.tmp 75) = .pointer (some ⟨R, 0, none⟩) := KS_val (Deps.val hd 1 75 (by decide +kernel)) rfl
            clear hd hk
            exact wp_value (.pointer (some ⟨R, 0, none⟩)) (by simp only [execOp, e75]; go_simp) (KS_mkv rfl rfl)
          · -- 3: Op.load 28 (Operand.tmp 76)
            intro Q
            have e76 : a'.eval (.tmp 76) = .pointer (some ⟨R, 0, none⟩) := KS_val (Deps.val hd 2 76 (by decide +kernel)) rfl
            have c_ : w'.cell? ⟨R, 0, none⟩ = some (.slice (some ⟨g, 0, none⟩) n2 c2) := (HM.out.d.kept hg).cell (j := 0) rfl
            clear hd hk
            exact wp_value (.slice (some ⟨g, 0, none⟩) n2 c2) (by simp only [execOp, e76]; go_simp) (KS_mkv rfl rfl)
          · -- 4: Op.move (Operand.tmp 6)
            intro Q
            have e6 : a'.eval (.tmp 6) = .int .i64 (i : Int) := hk.at 6 (by decide +kernel)
            exact wp_value _ (by simp only [execOp, e6]; rfl) (KS_mkv rfl rfl)
          · -- 5: Op.indexAddr 28 (Operand.tmp 77) (Operand.tmp 78)
            intro Q
            have e77 : a'.eval (.tmp 77) = .slice (some ⟨g, 0, none⟩) n2 c2 := KS_val (Deps.val hd 3 77 (by decide +kernel)) rfl
            have e78 : a'.eval (.tmp 78) = .int .i64 (i : Int) := KS_val (Deps.val hd 4 78 (by decide +kernel)) rfl
            clear hd hk
            exact wp_value (.pointer (some ⟨g, i * 2, none⟩)) (by simp only [execOp, e77, e78]; go_simp) (KS_mkv rfl rfl)
          · -- 6: Op.fieldAddr 69 (Operand.tmp 79) 1
            intro Q
            have e79 : a'.eval (.tmp 79) = .pointer (some ⟨g, i * 2, none⟩) := KS_val (Deps.val hd 5 79 (by decide +kernel)) rfl
            clear hd hk
            exact wp_value (.pointer (some ⟨g, i * 2 + 1, none⟩)) (by simp only [execOp, e79]; go_simp) (KS_mkv rfl rfl)
          · -- 7: Op.load 67 (Operand.tmp 80)
            intro Q
            have e80 : a'.eval (.tmp 80) = .pointer (some ⟨g, i * 2 + 1, none⟩) := KS_val (Deps.val hd 6 80 (by decide +kernel)) rfl
            have c_ : w'.cell? ⟨g, i * 2 + 1, none⟩ = some (.slice u.2.1 u.2.2.1 u.2.2.2) := (Below.cell hg (p := ⟨g, i * 2 + 1, none⟩) hgl).trans hcu
            clear hd hk
            exact wp_value (.slice u.2.1 u.2.2.1 u.2.2.2) (by simp only [execOp, e80]; go_simp) (KS_mkv rfl rfl)
          · -- 8: Op.move (Operand.tmp 2)
            intro Q
            have e2 : a'.eval (.tmp 2) = .int .i64 m := hk.at 2 (by decide +kernel)
            exact wp_value _ (by simp only [execOp, e2]; rfl) (KS_mkv rfl rfl)
          · -- 9: Op.fieldAddr 49 (Operand.tmp 4) 1
            intro Q
            have e4 : a'.eval (.tmp 4) = .pointer (some ⟨E, 0, none⟩) := hk.at 4 (by decide +kernel)
            clear hd hk
            exact wp_value (.pointer (some ⟨E, 1, none⟩)) (by simp only [execOp, e4]; go_simp) (KS_mkv rfl rfl)
          · -- 10: Op.load 9 (Operand.tmp 83)
            intro Q
            have e83 : a'.eval (.tmp 83) = .pointer (some ⟨E, 1, none⟩) := KS_val (Deps.val hd 9 83 (by decide +kernel)) rfl
            have c_ : w'.cell? ⟨E, 1, none⟩ = some (.string va) := (B7.out.kept hg).cell (j := 1) rfl
            clear hd hk
            exact wp_value (.string va) (by simp only [execOp, e83]; go_simp) (KS_mkv rfl rfl)
          · -- 11: Op.fieldAddr 49 (Operand.tmp 4) 2
            intro Q
            have e4 : a'.eval (.tmp 4) = .pointer (some ⟨E, 0, none⟩) := hk.at 4 (by decide +kernel)
            clear hd hk
            exact wp_value (.pointer (some ⟨E, 2, none⟩)) (by simp only [execOp, e4]; go_simp) (KS_mkv rfl rfl)
          · -- 12: Op.load 4 (Operand.tmp 85)
            intro Q
            have e85 : a'.eval (.tmp 85) = .pointer (some ⟨E, 2, none⟩) := KS_val (Deps.val hd 11 85 (by decide +kernel)) rfl
            have c_ : w'.cell? ⟨E, 2, none⟩ = some (.bool dd) := (B7.out.kept hg).cell (j := 2) rfl
            clear hd hk
            exact wp_value (.bool dd) (by simp only [execOp, e85]; go_simp) (KS_mkv rfl rfl)
          · -- 13: Op.build 87 #[(0, Operand.tmp 82), (1, Operand.tmp 84), (2, 
            intro Q
            have e82 : a'.eval (.tmp 82) = .int .i64 m := KS_val (Deps.val hd 8 82 (by decide +kernel)) rfl
            have e84 : a'.eval (.tmp 84) = .string va := KS_val (Deps.val hd 10 84 (by decide +kernel)) rfl
            have e86 : a'.eval (.tmp 86) = .bool dd := KS_val (Deps.val hd 12 86 (by decide +kernel)) rfl
            clear hd hk
            exact wp_value (.agg (VC (m, va, dd)).toArray) (by simp only [execOp, List.map_toArray, List.map_cons, List.map_nil, e82, e84, e86, hbv, Sem.run_bind, Sem.run_pure, Result.andThen_ok]) (KS_mkv rfl rfl)
          · -- 14: Op.call ( callee := Callee.value (Operand.func 59), args := 
            intro Q
            have e81 : a'.eval (.tmp 81) = .slice u.2.1 u.2.2.1 u.2.2.2 := KS_val (Deps.val hd 7 81 (by decide +kernel)) rfl
            have e87 : a'.eval (.tmp 87) = .agg (VC (m, va, dd)).toArray := KS_val (Deps.val hd 13 87 (by decide +kernel)) rfl
            refine wp_call 59 _ (run_enter 59 _ _ rfl (by kernel_rfl)) ?_
            simp only [List.map_toArray, List.map_nil, List.map_cons, e81, e87]
            refine (kput_own (HUC.out.kept hg) (by omega) (m, va, dd) HP.out).mono ?_
            rintro e_ w_ ⟨v_, rfl, ho_, hb_⟩
            rw [show putP (ch ky) (m, va, dd) = ch ky ++ [verOf m (ky, va, dd)] from putP_ok HP.out] at ho_
            obtain ⟨y, rfl⟩ := ho_.form
            exact ⟨_, rfl, KS_mko rfl ⟨y, rfl, ho_.mono hg.size⟩, hb_⟩
          · -- 15: Op.move (Operand.tmp 88)
            intro Q
            have r88 := KS_of (Deps.val hd 14 88 (by decide +kernel)) rfl
            exact wp_value (a'.eval (.tmp 88)) (by simp only [execOp]; rfl) (KS_mko rfl r88)
          · -- 16: Op.extract (Operand.tmp 73) 0
            intro Q
            have r73 := KS_of (Deps.val hd 15 73 (by decide +kernel)) rfl
            obtain ⟨y, e73, o73⟩ := r73
            exact wp_value (.slice y.1 y.2.1 y.2.2) (by simp only [execOp, e73]; rfl) (KS_mko rfl ⟨y, rfl, o73⟩)
          · -- 17: Op.extract (Operand.tmp 73) 1
            intro Q
            have r73 := KS_of (Deps.val hd 15 73 (by decide +kernel)) rfl
            obtain ⟨y, e73, o73⟩ := r73
            exact wp_value (.bool true) (by simp only [execOp, e73]; rfl) (KS_mkv rfl rfl)
          · -- 18: Op.assign (Operand.tmp 89)
            intro Q
            have r89 := KS_of (Deps.val hd 16 89 (by decide +kernel)) rfl
            exact wp_value (a'.eval (.tmp 89)) (by simp only [execOp]; rfl) (KS_mko rfl r89)
          · -- 19: Op.assign (Operand.tmp 90)
            intro Q
            have e90 : a'.eval (.tmp 90) = .bool true := KS_val (Deps.val hd 17 90 (by decide +kernel)) rfl
            exact wp_value _ (by simp only [execOp, e90]; rfl) (KS_mkv rfl rfl)
        · intro a' wb hsz hdf hk hall hg
          have e74 : a'.eval (.tmp 74) = .pointer (some ⟨R, 0, none⟩) := KS_val (hall 0 _ 74 rfl rfl) rfl
          have e75 : a'.eval (.tmp 75) = .pointer (some ⟨R, 0, none⟩) := KS_val (hall 1 _ 75 rfl rfl) rfl
          have e76 : a'.eval (.tmp 76) = .pointer (some ⟨R, 0, none⟩) := KS_val (hall 2 _ 76 rfl rfl) rfl
          have e77 : a'.eval (.tmp 77) = .slice (some ⟨g, 0, none⟩) n2 c2 := KS_val (hall 3 _ 77 rfl rfl) rfl
          have e78 : a'.eval (.tmp 78) = .int .i64 (i : Int) := KS_val (hall 4 _ 78 rfl rfl) rfl
          have e79 : a'.eval (.tmp 79) = .pointer (some ⟨g, i * 2, none⟩) := KS_val (hall 5 _ 79 rfl rfl) rfl
          have e80 : a'.eval (.tmp 80) = .pointer (some ⟨g, i * 2 + 1, none⟩) := KS_val (hall 6 _ 80 rfl rfl) rfl
          have e81 : a'.eval (.tmp 81) = .slice u.2.1 u.2.2.1 u.2.2.2 := KS_val (hall 7 _ 81 rfl rfl) rfl
          have e82 : a'.eval (.tmp 82) = .int .i64 m := KS_val (hall 8 _ 82 rfl rfl) rfl
          have e83 : a'.eval (.tmp 83) = .pointer (some ⟨E, 1, none⟩) := KS_val (hall 9 _ 83 rfl rfl) rfl
          have e84 : a'.eval (.tmp 84) = .string va := KS_val (hall 10 _ 84 rfl rfl) rfl
          have e85 : a'.eval (.tmp 85) = .pointer (some ⟨E, 2, none⟩) := KS_val (hall 11 _ 85 rfl rfl) rfl
          have e86 : a'.eval (.tmp 86) = .bool dd := KS_val (hall 12 _ 86 rfl rfl) rfl
          have e87 : a'.eval (.tmp 87) = .agg (VC (m, va, dd)).toArray := KS_val (hall 13 _ 87 rfl rfl) rfl
          have r88 := KS_of (hall 14 _ 88 rfl rfl) rfl
          obtain ⟨x88, e88⟩ : ∃ v, a'.eval (.tmp 88) = v := ⟨_, rfl⟩
          rw [e88] at r88
          have r73 := KS_of (hall 15 _ 73 rfl rfl) rfl
          obtain ⟨x73, e73⟩ : ∃ v, a'.eval (.tmp 73) = v := ⟨_, rfl⟩
          rw [e73] at r73
          have r89 := KS_of (hall 16 _ 89 rfl rfl) rfl
          obtain ⟨x89, e89⟩ : ∃ v, a'.eval (.tmp 89) = v := ⟨_, rfl⟩
          rw [e89] at r89
          have e90 : a'.eval (.tmp 90) = .bool true := KS_val (hall 17 _ 90 rfl rfl) rfl
          have r7 := KS_of (hall 18 _ 7 rfl rfl) rfl
          obtain ⟨x7, e7⟩ : ∃ v, a'.eval (.tmp 7) = v := ⟨_, rfl⟩
          rw [e7] at r7
          have e8 : a'.eval (.tmp 8) = .bool true := KS_val (hall 19 _ 8 rfl rfl) rfl
          have ha := act_puts 99 rfl hsz hdf hk [74, 75, 76, 77, 78, 79, 80, 81, 82, 83, 84, 85, 86, 87, 88, 73, 89, 90, 7, 8] (by decide +kernel)
          simp only [puts, List.foldl_cons, List.foldl_nil, e74, e75, e76, e77, e78, e79, e80, e81, e82, e83, e84, e85, e86, e87, e88, e73, e89, e90, e7, e8] at ha
          simp only [Act.put, List.setIfInBounds_toArray, List.set_cons_succ, List.set_cons_zero] at ha
          clear hall hk hsz hdf r88 r73 r89 e74 e75 e76 e77 e78 e79 e80 e81 e82 e83 e84 e85 e86 e87 e88 e73 e89 e90 e7 e8
          subst ha
          obtain ⟨y, rfl, o7⟩ := r7
          have HO := hide o7
          have GB := hide hg
          clear o7 hg hbv
          have HD := hide (HM.out.done (p := (ky, va, dd)) (m := m) (y := y) GB.out HO.out)
          have hcb : wb.cell? ⟨g, i * 2 + 1, none⟩ = some (.slice u.2.1 u.2.2.1 u.2.2.2) := (Below.cell GB.out (p := ⟨g, i * 2 + 1, none⟩) hgl).trans hcu
          have hfb : wb.frozen? ⟨g, i * 2 + 1, none⟩ = false := by
            obtain ⟨g_, c_, cur, hv, -, hb_, -⟩ := (HM.out.kept GB.out).own.blk (Nat.lt_of_le_of_lt (Nat.zero_le _) HM.out.hi)
            cases hv
            exact hb_.frozen _
          have hcR : wb.cell? ⟨R, 0, none⟩ = some (.slice (some ⟨g, 0, none⟩) n2 c2) := (HM.out.d.kept GB.out).cell (j := 0) rfl
          have hq2 : (i : Int) < (n2 : Int) := by omega
          clear hcu
          go_wp2_with fail
          refine bodyPost_end (results_none rfl _ _ _) rfl ?_
          obtain ⟨rs', h1, h2, h3, h4, h5⟩ := HD.out
          exact ⟨rfl, _, rs', h1, h2, h3, HN.out ▸ h4, h5⟩
#print axioms vput_any
end Go.Proofs.Ytgaoionnfkbhaaa
