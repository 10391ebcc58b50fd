/-
  between: what is handed to whatever loop goes over a range; Wrote.
-/
import Derived.Test.YtgaoionnfkbhaaaStV
namespace Go.Proofs.Ytgaoionnfkbhaaa
open Go.RowKit Go.Shelf
attribute [local go_sem] Oper.semAt_some
theorem filter_range {ks : List ByteArray} (hs : Srt ks) (a b : ByteArray) {j : Nat} (hj : ∀ i (hi : i < (ks.drop (lb ks a)).length), i < j → lt (ks.drop (lb ks a))[i] b = true)
    (he : ∀ (hi : j < (ks.drop (lb ks a)).length), lt (ks.drop (lb ks a))[j] b = false) : ks.filter (inr a b) = (ks.drop (lb ks a)).take j := by
  have h1 : ks = ks.take (lb ks a) ++ ((ks.drop (lb ks a)).take j ++ (ks.drop (lb ks a)).drop j) := by rw [List.take_append_drop, List.take_append_drop]
  have hd := srt_drop hs (lb ks a)
  conv => lhs; rw [h1]
  rw [List.filter_append, List.filter_append]
  have e1 : (ks.take (lb ks a)).filter (inr a b) = [] := by
    rw [List.filter_eq_nil_iff]
    intro k hk
    unfold inr
    rw [lb_take hs k hk]
    simp
  have e2 : ((ks.drop (lb ks a)).take j).filter (inr a b) = (ks.drop (lb ks a)).take j := by
    rw [List.filter_eq_self]
    intro k hk
    obtain ⟨i, hi, rfl⟩ := List.getElem_of_mem hk
    rw [List.length_take] at hi
    rw [List.getElem_take]
    unfold inr
    rw [lb_drop hs _ (List.getElem_mem _), hj i (by omega) (by omega)]
    rfl
  have e3 : ((ks.drop (lb ks a)).drop j).filter (inr a b) = [] := by
    rw [List.filter_eq_nil_iff]
    intro k hk
    obtain ⟨i, hi, rfl⟩ := List.getElem_of_mem hk
    rw [List.length_drop] at hi
    rw [List.getElem_drop]
    have hj' : j < (ks.drop (lb ks a)).length := by omega
    have h0 := he hj'
    have hge : lt (ks.drop (lb ks a))[j + i] b = false := by
      rcases Nat.eq_zero_or_pos i with rfl | hi'
      · exact h0
      · have hlt := (List.pairwise_iff_getElem.1 hd) j (j + i) hj' (by omega) (by omega)
        cases hq : lt (ks.drop (lb ks a))[j + i] b with
        | false => rfl
        | true => rw [lt_trans hlt hq] at h0; cases h0
    unfold inr
    rw [hge]
    simp
  rw [e1, e2, e3, List.nil_append, List.append_nil]
abbrev Rng : Type := ByteArray × Value
def rgV (x : Rng) : Array Value := #[.string x.1, x.2]
def rgR (ks : List ByteArray) (ch : ByteArray → List Ver) (a b : ByteArray) (pre : List Rng) (x : Rng) (W : World) : Prop :=
  pre.map (·.1) = (ks.drop (lb ks a)).take pre.length ∧ (ks.drop (lb ks a))[pre.length]? = some x.1 ∧ inr a b x.1 = true ∧ RdV W x.2 (ch x.1) ∧ True
set_option maxRecDepth 100000 in
set_option maxHeartbeats 4000000 in
theorem between1_hands (n B0 B1 B2 D M : Nat) (vk : Value) (ks : List ByteArray) (s : SP) (fa tb : ByteArray) (w : World) (h : StAt w D M vk ks s) (hN : ks.length ≤ 1000000)
    (h0 : Blk w B0 25 [.pointer (some ⟨D, 0, none⟩)]) (h1 : Blk w B1 9 [.string fa]) (h2 : Blk w B2 9 [.string tb]) {G : Nat → Prop} (hG0 : ¬ G B0) (_hG1 : ¬ G B1) (hG2 : ¬ G B2) (hGm : ∀ b, Mine D M vk b → ¬ G b) (hGc : NoCh w G) :
    Hands2 Try.prog n 51 #[.pointer (some ⟨B0, 0, none⟩), .pointer (some ⟨B1, 0, none⟩), .pointer (some ⟨B2, 0, none⟩)] rgV (rgR ks s.ch fa tb) (fun xs => xs.map (·.1) = ks.filter (inr fa tb)) G w := by
  intro l J Jx W hW hJ hJx hJ0 hY
  have HST := hide h
  have HW := hide (h.kept hW)
  have hcW : Hid (Chg G w W) := Chg.of_below hW
  have hb0 := hide h0
  have hb1 := hide h1
  have hb2 := hide h2
  obtain ⟨ka, ck, rfl⟩ := h.kk.rd.slice
  obtain ⟨nk, HNK⟩ : ∃ m, Hid (ks.length = m) := ⟨_, rfl⟩
  rw [HNK.out] at HST HW hGm hN
  have HGM := hide hGm
  have HGC := hide hGc
  have bS := hide (h0.kept hW)
  have bF := hide (h1.kept hW)
  have bT := hide (h2.kept hW)
  have HD := hide HW.out.d
  have HK := hide HW.out.kk.rd
  have HSR := hide h.inv.srt
  have HY := hide hY
  have HJ := hide hJ
  have HJX := hide hJx
  have H0 := hide hJ0
  obtain ⟨p, Hp⟩ : ∃ p, Hid (lb ks fa = p) := ⟨_, rfl⟩
  obtain ⟨fd, Hfd⟩ : ∃ x, Hid (fnd ks fa = x) := ⟨_, rfl⟩
  have hpn : p ≤ nk := by have := lb_le ks fa; rw [Hp.out, HNK.out] at this; exact this
  clear h hW hJ hJx hJ0 hY h0 h1 h2 hGm hGc
  refine callsIn_of_wp Try.func51 rfl trivial ?_ rfl
  simp only [Try.ntmps51, List.size_toArray, List.length_cons, List.length_nil, Nat.reduceAdd, Nat.reduceSub, Array.replicate_succ, Array.replicate_zero, List.push_toArray, List.append_toArray, List.nil_append, List.cons_append]
  gi_wp2_with fail
  refine wpIn_wide.2 ?_
  refine wp_region_inv Try.mixed (KS (fun i_ => match i_ with | 0 | 1 => .val (.pointer (some ⟨D, 0, none⟩)) | 2 => .val (.pointer (some ⟨D, 1, none⟩)) | 3 => .val (.slice ka nk ck) | 4 => .val (.string fa) | 5 | 6 => .val (.tuple #[.int .i64 (p : Int), .bool fd]) | 7 | 9 => .val (.int .i64 (p : Int)) | 8 | 10 => .val (.bool fd) | _ => .free)) 45 rfl (by decide +kernel) (KS_mono _) ?_ ?_
  · refine AllFrom.cons (fun a' w' hg hk hd => ?_) (AllFrom.cons (fun a' w' hg hk hd => ?_) (AllFrom.cons (fun a' w' hg hk hd => ?_) (AllFrom.cons (fun a' w' hg hk hd => ?_) (AllFrom.cons (fun a' w' hg hk hd => ?_) (AllFrom.cons (fun a' w' hg hk hd => ?_) (AllFrom.cons (fun a' w' hg hk hd => ?_) (AllFrom.cons (fun a' w' hg hk hd => ?_) (AllFrom.cons (fun a' w' hg hk hd => ?_) (AllFrom.cons (fun a' w' hg hk hd => ?_) (AllFrom.cons (fun a' w' hg hk hd => ?_) AllFrom.nil))))))))))
    · -- 0: Op.load 25 (Operand.tmp 1)
      intro Q
      have e1 : a'.eval (.tmp 1) = .pointer (some ⟨B0, 0, none⟩) := hk.at 1 (by decide +kernel)
      have c := (bS.out.kept hg).cell (j := 0) rfl
      clear hd hk
      exact wp_value (.pointer (some ⟨D, 0, none⟩)) (by simp only [execOp, e1]; go_simp) (KS_mkv rfl rfl)
    · -- 1: Op.nilCheck (Operand.tmp 10)
      intro Q
      have e10 : a'.eval (.tmp 10) = .pointer (some ⟨D, 0, none⟩) := KS_val (Deps.val hd 0 10 (by decide +kernel)) rfl
      clear hd hk
      exact wp_value (.pointer (some ⟨D, 0, none⟩)) (by simp only [execOp, e10]; go_simp) (KS_mkv rfl rfl)
    · -- 2: Op.fieldAddr 55 (Operand.tmp 11) 1
      intro Q
      have e11 : a'.eval (.tmp 11) = .pointer (some ⟨D, 0, none⟩) := KS_val (Deps.val hd 1 11 (by decide +kernel)) rfl
      clear hd hk
      exact wp_value (.pointer (some ⟨D, 1, none⟩)) (by simp only [execOp, e11]; go_simp) (KS_mkv rfl rfl)
    · -- 3: Op.load 47 (Operand.tmp 12)
      intro Q
      have e12 : a'.eval (.tmp 12) = .pointer (some ⟨D, 1, none⟩) := KS_val (Deps.val hd 2 12 (by decide +kernel)) rfl
      have c := (HD.out.kept hg).cell (j := 1) rfl
      clear hd hk
      exact wp_value (.slice ka nk ck) (by simp only [execOp, e12]; go_simp) (KS_mkv rfl rfl)
    · -- 4: Op.load 9 (Operand.tmp 2)
      intro Q
      have e2 : a'.eval (.tmp 2) = .pointer (some ⟨B1, 0, none⟩) := hk.at 2 (by decide +kernel)
      have c := (bF.out.kept hg).cell (j := 0) rfl
      clear hd hk
      exact wp_value (.string fa) (by simp only [execOp, e2]; go_simp) (KS_mkv rfl rfl)
    · -- 5: Op.call ( callee := Callee.value (Operand.func 52), args := 
      intro Q
      have e13 : a'.eval (.tmp 13) = .slice ka nk ck := KS_val (Deps.val hd 3 13 (by decide +kernel)) rfl
      have e14 : a'.eval (.tmp 14) = .string fa := KS_val (Deps.val hd 4 14 (by decide +kernel)) rfl
      refine wp_call 52 _ (run_enter 52 _ _ rfl (by kernel_rfl)) ?_
      simp only [List.map_toArray, List.map_nil, List.map_cons, e13, e14]
      refine (bsearch_any (HK.out.kept hg) HSR.out (by rw [HNK.out]; omega) fa).mono ?_
      rintro e_ w_ ⟨rfl, hw_⟩
      subst w_
      rw [Hp.out, Hfd.out]
      exact ⟨_, rfl, KS_mkv rfl rfl, Gr.refl _⟩
    · -- 6: Op.move (Operand.tmp 15)
      intro Q
      have e15 : a'.eval (.tmp 15) = .tuple #[.int .i64 (p : Int), .bool fd] := KS_val (Deps.val hd 5 15 (by decide +kernel)) rfl
      exact wp_value _ (by simp only [execOp, e15]; rfl) (KS_mkv rfl rfl)
    · -- 7: Op.extract (Operand.tmp 9) 0
      intro Q
      have e9 : a'.eval (.tmp 9) = .tuple #[.int .i64 (p : Int), .bool fd] := KS_val (Deps.val hd 6 9 (by decide +kernel)) rfl
      clear hd hk
      exact wp_value (.int .i64 (p : Int)) (by simp only [execOp, e9]; go_simp) (KS_mkv rfl rfl)
    · -- 8: Op.extract (Operand.tmp 9) 1
      intro Q
      have e9 : a'.eval (.tmp 9) = .tuple #[.int .i64 (p : Int), .bool fd] := KS_val (Deps.val hd 6 9 (by decide +kernel)) rfl
      clear hd hk
      exact wp_value (.bool fd) (by simp only [execOp, e9]; go_simp) (KS_mkv rfl rfl)
    · -- 9: Op.assign (Operand.tmp 16)
      intro Q
      have e16 : a'.eval (.tmp 16) = .int .i64 (p : Int) := KS_val (Deps.val hd 7 16 (by decide +kernel)) rfl
      exact wp_value _ (by simp only [execOp, e16]; rfl) (KS_mkv rfl rfl)
    · -- 10: Op.assign (Operand.tmp 17)
      intro Q
      have e17 : a'.eval (.tmp 17) = .bool fd := KS_val (Deps.val hd 8 17 (by decide +kernel)) rfl
      exact wp_value _ (by simp only [execOp, e17]; rfl) (KS_mkv rfl rfl)
  · intro a' w5 hsz hdf hk hall hg
    have e10 : a'.eval (.tmp 10) = .pointer (some ⟨D, 0, none⟩) := KS_val (hall 0 _ 10 rfl rfl) rfl
    have e11 : a'.eval (.tmp 11) = .pointer (some ⟨D, 0, none⟩) := KS_val (hall 1 _ 11 rfl rfl) rfl
    have e12 : a'.eval (.tmp 12) = .pointer (some ⟨D, 1, none⟩) := KS_val (hall 2 _ 12 rfl rfl) rfl
    have e13 : a'.eval (.tmp 13) = .slice ka nk ck := KS_val (hall 3 _ 13 rfl rfl) rfl
    have e14 : a'.eval (.tmp 14) = .string fa := KS_val (hall 4 _ 14 rfl rfl) rfl
    have e15 : a'.eval (.tmp 15) = .tuple #[.int .i64 (p : Int), .bool fd] := KS_val (hall 5 _ 15 rfl rfl) rfl
    have e9 : a'.eval (.tmp 9) = .tuple #[.int .i64 (p : Int), .bool fd] := KS_val (hall 6 _ 9 rfl rfl) rfl
    have e16 : a'.eval (.tmp 16) = .int .i64 (p : Int) := KS_val (hall 7 _ 16 rfl rfl) rfl
    have e17 : a'.eval (.tmp 17) = .bool fd := KS_val (hall 8 _ 17 rfl rfl) rfl
    have e5 : a'.eval (.tmp 5) = .int .i64 (p : Int) := KS_val (hall 9 _ 5 rfl rfl) rfl
    have e6 : a'.eval (.tmp 6) = .bool fd := KS_val (hall 10 _ 6 rfl rfl) rfl
    have ha := act_puts 45 rfl hsz hdf hk [10, 11, 12, 13, 14, 15, 9, 16, 17, 5, 6] (by decide +kernel)
    simp only [puts, List.foldl_cons, List.foldl_nil, e10, e11, e12, e13, e14, e15, e9, e16, e17, e5, e6] at ha
    simp only [Act.put, List.setIfInBounds_toArray, List.set_cons_succ, List.set_cons_zero] at ha
    clear hall hk hsz hdf e10 e11 e12 e13 e14 e15 e9 e16 e17 e5 e6
    subst ha
    have G5 := hide (show Below W.heap.size W w5 from hg)
    clear hg
    have c0 := (bS.out.kept G5.out).cell (j := 0) rfl
    have c1 := (HD.out.kept G5.out).cell (j := 1) rfl
    obtain ⟨ka', hsl, -, hrd'⟩ := slice_G (E := KE) (P := Try.prog) Try.underlying47 Try.size9 ka nk ck p hpn HK.out.cap
    have HRD := hide hrd'
    clear hrd'
    have C5 : Hid (Chg G w w5) := hcW.out.trans (Chg.of_below G5.out)
    have J5 : Hid (J [] w5) := HJ.out _ _ _ H0.out G5.out
    gi_wp2_with fail
    gi_loopw [25] (fun x wr => ∃ (pre : List Rng) (j : Nat), x = .int .i64 (j : Int) ∧ j ≤ nk - p ∧ Hid (J pre wr) ∧ Hid (Chg G w wr) ∧ Hid (pre.map (·.1) = (ks.drop p).take j ∧ pre.length = j ∧ ∀ i (hi : i < (ks.drop p).length), i < j → lt (ks.drop p)[i] tb = true)) (fun x _ => nk - p - (intOf x).toNat)
    case atStart => exact ⟨[], 0, rfl, Nat.zero_le _, J5, C5, ⟨by simp, rfl, fun i _ h => by omega⟩⟩
    case round =>
      obtain ⟨pre, j, rfl, hjn, HP, HC, HL⟩ := hrel
      have hdl : (ks.drop p).length = nk - p := by rw [List.length_drop, HNK.out]
      by_cases hj : j < nk - p
      · have q1 : (j : Int) < ((nk - p : Nat) : Int) := by omega
        have HSr := hide (HST.out.chg HC.out HGM.out HGC.out)
        have hrd := hide (HRD.out _ _ HSr.out.kk.rd)
        obtain ⟨b, off, rfl, hlb, hx⟩ := hrd.out.nth (by omega)
        have hmk : j < (ks.drop p).length := by omega
        have ck0 : wr.cell? ⟨b, off + j, none⟩ = some (.string (ks.drop p)[j]) := by
          have := hx j hmk 0 _ rfl
          simpa [KE] using this
        have HKY0 : Hid ((ks.drop p)[j]? = some (ks.drop p)[j]) := List.getElem?_eq_getElem hmk
        obtain ⟨ky, HKY⟩ : ∃ k, Hid ((ks.drop p)[j] = k) := ⟨(ks.drop p)[j], (show (ks.drop p)[j] = _ from rfl)⟩
        rw [HKY.out] at ck0 HKY0
        have hmem : ky ∈ ks.drop p := by rw [← HKY.out]; exact List.getElem_mem hmk
        have hks : ky.size ≤ maxLen := by have := HST.out.sz ky (List.mem_of_mem_drop hmem); simp only [maxLen]; omega
        have hge : Hid (lt ky fa = false) := (show _ = _ from lb_drop HSR.out ky (by rw [Hp.out]; exact hmem))
        have d0 := (hb0.out.chg HC.out hG0).cell (j := 0) rfl
        have d2 := (hb2.out.chg HC.out hG2).cell (j := 0) rfl
        have m0 := HSr.out.d.cell (j := 0) rfl
        obtain ⟨vc, hvc, -, hlk⟩ := HSr.out.mp.look_all ky hks
        have hlk' := hlk wr (Below.refl _ _)
        have HVC := hide hvc
        have hsge := sge
        clear hx hlk hvc hmem
        obtain ⟨q, hq⟩ : ∃ q, lt ky tb = q := ⟨_, rfl⟩
        cases q with
        | false =>
          gi_wp2_with fail
          refine ⟨fun _ _ => trivial, ?_⟩
          gi_wp2_with fail
          refine bodyPost_ret (results_none rfl _ _ _) rfl ?_
          refine ⟨⟨_, rfl⟩, .inl ⟨pre, ?_, HP.out⟩⟩
          have hfr := filter_range HSR.out fa tb (j := j)
          rw [Hp.out] at hfr
          rw [HL.out.1, hfr HL.out.2.2 (fun hi => by rw [HKY.out]; exact hq)]
        | true =>
          obtain ⟨fn, tmps, assign, body, hy, hR⟩ := HY.out pre (ky, vc) wr HP.out ⟨by rw [Hp.out, HL.out.2.1]; exact HL.out.1, by rw [Hp.out, HL.out.2.1]; exact HKY0.out, by unfold inr; rw [hge.out, hq]; rfl, HVC.out.rd, trivial⟩
          simp only [rgV] at hy
          have HRR := hide hR
          have HQ := hide hq
          clear hR
          gi_wp2_with fail
          refine ⟨fun h => by simp [Fence.wide] at h, HRR.out.mono ?_⟩
          rintro e w3 ⟨hc3, ⟨rfl, hj3⟩ | ⟨rfl, hj3⟩⟩
          · gi_wp2_with fail
            go_roundw
            case rel =>
              refine ⟨pre ++ [(ky, vc)], j + 1, by go_num, by omega, hj3, HC.out.trans hc3, ⟨?_, by rw [List.length_append, HL.out.2.1]; rfl, fun i hi hij => ?_⟩⟩
              · rw [List.map_append, HL.out.1, List.take_succ_eq_append_getElem hmk, HKY.out]
                rfl
              · by_cases hij' : i < j
                · exact HL.out.2.2 i hi hij'
                · obtain rfl : i = j := by omega
                  rw [HKY.out]
                  exact HQ.out
            case measure => simp only [intOf]; omega
          · gi_wp2_with fail
            refine bodyPost_ret (results_none rfl _ _ _) rfl ?_
            exact ⟨⟨_, rfl⟩, .inr ⟨_, hj3⟩⟩
      · obtain rfl : j = nk - p := by omega
        have q1 : ¬ ((nk - p : Nat) : Int) < ((nk - p : Nat) : Int) := by omega
        gi_wp2_with fail
        refine bodyPost_end (results_none rfl _ _ _) rfl ?_
        refine ⟨⟨_, rfl⟩, .inl ⟨pre, ?_, HP.out⟩⟩
        have hfr := filter_range HSR.out fa tb (j := nk - p)
        rw [Hp.out] at hfr
        rw [HL.out.1, hfr HL.out.2.2 (fun hi => by omega)]
#print axioms between1_hands
set_option maxRecDepth 100000 in
theorem between_any (D : Nat) (a b : ByteArray) (w : World) : Calls Try.prog 35 #[.pointer (some ⟨D, 0, none⟩), .string a, .string b] w fun e w' => e = .returned (.func (.func 51) #[] #[.pointer (some ⟨w.heap.size, 0, none⟩), .pointer (some ⟨w.heap.size + 1, 0, none⟩), .pointer (some ⟨w.heap.size + 2, 0, none⟩)]) ∧ w' = ((w.alloc (.cells #[.pointer (some ⟨D, 0, none⟩)] 25)).alloc (.cells #[.string a] 9)).alloc (.cells #[.string b] 9) := by
  go_enter Try.func35, Try.ntmps35
  go_wp2
  go_ret
  exact ⟨rfl, rfl⟩
set_option maxRecDepth 100000 in
theorem sWrote_any {w : World} {D M : Nat} {vk : Value} {ks : List ByteArray} {s : SP} (h : StAt w D M vk ks s) (hla : s.last ≤ 1000000) (k : ByteArray) (hk : k.size ≤ maxLen) (n : Int) :
    Calls Try.prog 17 #[.pointer (some ⟨D, 0, none⟩), .string k, .int .i64 n] w fun e w' => e = .returned (.bool (wroteS s k n)) ∧ Below w.heap.size w w' := by
  have HS := hide h
  obtain ⟨ch, la, fl⟩ := s
  simp only at hla
  obtain ⟨vc, hvc, -, hlk⟩ := h.mp.look_all k hk
  have hlk' := hlk w (Below.refl _ _)
  simp only at hvc
  have hlen : (ch k).length ≤ 4398046511104 := by have h2 : ((ch k).length : Int) ≤ la := HS.out.inv.len k; omega
  have HC := hide (since_any hvc.rd hlen n)
  obtain ⟨r, Hr⟩ : ∃ r, Hid (sinceP (ch k) n = r) := ⟨_, rfl⟩
  rw [Hr.out] at HC
  have HW : Hid (wroteS ⟨ch, la, fl⟩ k n = decide (0 < r)) := (show _ = _ by unfold wroteS; rw [Hr.out])
  rw [HW.out]
  have c0 := h.d.cell (j := 0) rfl
  clear h hvc hlk hlen
  go_enter Try.func17, Try.ntmps17
  go_wp2_with fail
  refine (sMade_any HS.out.d).mono ?_
  rintro e w1 ⟨rfl, hw⟩
  subst w1
  go_wp2_with fail
  refine HC.out.mono ?_
  rintro e w2 ⟨rfl, hb2⟩
  go_wp2_with fail
  go_ret
  refine ⟨?_, hb2⟩
  simp
#print axioms sWrote_any
end Go.Proofs.Ytgaoionnfkbhaaa
