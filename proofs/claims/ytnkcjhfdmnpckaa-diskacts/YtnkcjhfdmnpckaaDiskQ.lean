/-
  (*disk.Disk).Read: what the call does.
-/
import Derived.Test.YtnkcjhfdmnpckaaDiskW
import Derived.Test.YtnkcjhfdmnpckaaRegion3
namespace Go.Proofs.Ytnkcjhfdmnpckaa
open Go.RowKit
open Pd (spl spl_length spl_get clip clip_le DM)
theorem wp_copy_bytes {P : Program} {w : World} {o : Oper} {a : Act} {K : Act → World → Prop} {Q : Exit → Act → World → Prop} (d s : Operand) (dT sT : TypeId)
    (ho : o.op = .call { callee := .builtin .copy, args := #[d, s], argTypes := #[dT, sT] }) (elem : TypeId) (hu : P.underlying dT = some (.slice elem)) (hsz : (P.info? elem).map (·.size) = some 1)
    (b off dLen dCap : Nat) (v : Value) (l : List UInt8) (hd : a.eval d = .slice (some ⟨b, off, none⟩) dLen dCap) (hs : a.eval s = v) (hr : Rd w v l) (X : List UInt8) (c : Nat) (hX : l.take dLen = X) (hXc : X.length = c) (hc0 : 0 < c)
    (T : TypeId) (cs : List Value) (hB : Blk w b T cs) (hfit : off + dLen ≤ cs.length)
    (h : K (a.put o.dst (goInt c)) (w.setCells b off (By X))) : o.wp P a w K Q := by
  subst hX hXc
  obtain ⟨ad, cap, rfl, h1, h2, h3, h4⟩ := hr
  have hp : 0 < l.length := by rw [List.length_take] at hc0; omega
  obtain ⟨c, of, rfl, hlt, hc⟩ := h4 hp
  have hlen : (By (l.take dLen)).length = Nat.min l.length dLen := by rw [By_length, List.length_take, Nat.min_comm]
  have hmin : Nat.min l.length dLen ≤ dLen := Nat.min_le_right _ _
  have hrun := run_copy_cells (P := P) w dT sT o.type elem b off dLen dCap ⟨c, of, none⟩ l.length cap (By (l.take dLen)) hu hsz hlen
    (fun j v hj => by
      rw [Addr.add_mid]
      refine hc j v ?_
      have hj' : j < (l.take dLen).length := by have := (List.getElem?_eq_some_iff.1 hj).1; rwa [By_length] at this
      rw [← hj, By, By, List.map_take, List.getElem?_take_of_lt (by rw [List.length_take] at hj'; omega)])
    (fun j hj => by rw [hB.cell (v := cs[off + j]'(by omega)) (by simp)]; rfl) (fun j _ => hB.frozen _) (By_one _)
  unfold Oper.wp
  simp [execOp, ho, resolve, invoke, builtin, hd, hs, hrun, Result.andThen]
  rw [By_length]
  exact h
theorem rd_secFrom {w : World} {C : Nat} {T : TypeId} {y : List UInt8} (h : Blk w C T (By y)) (hy : y.length = 32) {o : Nat} (ho : o < 32) : Rd w (.slice (some ⟨C, o, none⟩) (32 - o) (32 - o)) (y.drop o) := by
  have hl : (y.drop o).length = 32 - o := by rw [List.length_drop, hy]
  refine ⟨_, 32 - o, by rw [hl], by omega, by unfold maxLen; omega, fun h => by simp at h, fun _ => ⟨C, o, rfl, h.lt, fun j u hj => ?_⟩⟩
  refine h.cell ?_
  rw [← hj]
  simp [By, List.map_drop, List.getElem?_drop]
theorem read_over {w : World} {G : Nat} {X Y : List UInt8} {d k l : Nat} (h : Blk w G 5 (By (X.take d ++ List.replicate (k - d) 0))) (hd : (X.take d).length = d) (hY : X.take (d + l) = X.take d ++ Y) (hl : Y.length = l) (hk : d + l ≤ k) :
    Blk (w.setCells G d (By Y)) G 5 (By (X.take (d + l) ++ List.replicate (k - (d + l)) 0)) := by
  have := Blk.over (By Y) h d (by rw [By_length, By_length, List.length_append, List.length_replicate, hd]; omega)
  rw [By_over] at this
  have e : spl (X.take d ++ List.replicate (k - d) 0) d Y = X.take (d + l) ++ List.replicate (k - (d + l)) 0 := by
    unfold Pd.spl
    rw [hY, List.take_append_of_le_length (by omega), List.take_of_length_le (by omega), List.drop_append, hd, List.drop_eq_nil_of_le (by omega), List.nil_append, List.drop_replicate, hl]
    congr 2
    omega
  rw [e] at this
  exact this
theorem slice_at (G k d : Nat) (hd : d < k) (W : World) : (Instr.sliceAt 29 (.slice (some ⟨G, 0, none⟩) k k) (some (.int .i64 (d : Int))) none none).run Try.prog W = .ok (.slice (some ⟨G, d, none⟩) (k - d) (k - d)) W := by
  have h1 : (d : Int) ≤ (k : Int) := by omega
  have h2 : ¬ k = d := by omega
  have hsz := Try.size5
  cases hq : Try.prog.info? 5 with
  | none => simp [hq] at hsz
  | some i =>
    have hi1 : i.size = 1 := by simpa [hq] using hsz
    simp [Instr.sliceAt, Instr.slice, run_underlying Try.underlying29, Instr.sliceBounds, run_sliceBound, h1, h2, sizeOf, typeInfo, hq, hi1, Addr.add_lit]
theorem sec_chunk {now : List UInt8} {p k d l q o : Nat} (hl : l = min (k - d) (32 - o)) (hq : (p + d) / 32 = q) (ho : (p + d) % 32 = o) : (((now.drop p).take k).drop d).take l = ((sec now q).drop o).take (k - d) := by
  apply List.ext_getElem?
  intro j
  by_cases hj : j < l
  · unfold sec
    rw [List.getElem?_take_of_lt hj, List.getElem?_drop, List.getElem?_take_of_lt (by omega), List.getElem?_drop, List.getElem?_take_of_lt (by omega), List.getElem?_drop, List.getElem?_take_of_lt (by omega), List.getElem?_drop]
    congr 1
    omega
  · rw [List.getElem?_eq_none (by rw [List.length_take]; omega), List.getElem?_eq_none (by unfold sec; rw [List.length_take, List.length_drop, List.length_take]; omega)]
section
variable {w : World} {c : Nat → Nat} {i D n : Nat} {m : DM}
set_option maxHeartbeats 2000000 in
set_option maxRecDepth 100000 in
theorem read_go {S M cap N : Nat} {vo vk : Value} {s : St} (hA : At w D S M n cap N vo vk s) (hW : Wf n N s) (hR : Rel n s m) (hon : m.off = false) (p k : Nat) (hpk : p + k ≤ 32 * n) :
    Calls Try.prog 18 #[.pointer (some ⟨D, 0, none⟩), .int .i64 (p : Int), .int .i64 (k : Int)] w fun e w' => ∃ v, e = .returned (.tuple #[v, .int .i64 0]) ∧ Rd w' v ((m.now.drop p).take k) ∧ (∀ x, InB v x → w.heap.size ≤ x) ∧ Below w.heap.size w w' := by
  have HA : Hid (At w D S M n cap N vo vk s) := hA
  have HW : Hid (Wf n N s) := hW
  have HR : Hid (Rel n s m) := hR
  have hso : s.on = true := by rw [hR.on, hon]; rfl
  have hdd := hA.d
  rw [hso] at hdd
  have HD : Hid (Blk w D 56 (DB true S n cap M vo s.ops vk s.torn)) := hdd
  have hp := hA.pos
  have hn := hA.max
  have HAD : Hid (D < w.heap.size) := hA.d.lt
  have HAS : Hid (S < w.heap.size) := hA.sf.lt
  have HAM : Hid (M < w.heap.size) := hA.mp.lt
  have HXl : Hid (((m.now.drop p).take k).length = k) := (show _ = _ by rw [List.length_take, List.length_drop, hR.ok.now]; omega)
  clear hA hW hR hdd
  have HE : Hid (decide ((k : Int) ≤ ((32 * n : Nat) : Int) - (p : Int)) = true) := (show _ = _ by simp; omega)
  have q0 : decide ((p : Int) < 0) = false := by simp
  have q1 : decide ((k : Int) < 0) = false := by simp
  obtain ⟨X, HX⟩ : ∃ X, Hid ((m.now.drop p).take k = X) := ⟨_, rfl⟩
  rw [HX.out] at HXl ⊢
  obtain ⟨i0, hi0, hz0, hz1, hz2⟩ := info_parts Try.info5
  have hz := zeroS
  obtain ⟨Z, HZ⟩ : ∃ Z, Hid (By Zs = Z) := ⟨_, rfl⟩
  rw [HZ.out] at hz
  have hzl : Z.length = 32 := by rw [← HZ.out]; rfl
  go_enter Try.func18, Try.ntmps18
  go_wp2_with fail
  refine (ready_any HD.out hp).mono ?_
  rintro e w1 ⟨rfl, hw⟩; subst hw
  simp only [if_true]
  go_wp2_with fail
  refine (ends_any HD.out hp hn p k (by omega) (by omega)).mono ?_
  rintro e w2 ⟨rfl, hw⟩; subst hw
  rw [HE.out]
  clear HE
  go_wp2_with (first
    | (at_make; refine wpList_make_bytes _ rfl _ _ 29 rfl i0 Try.underlying29 hi0 hz0 hz1 hz2 .i64 .i64 (k : Int) (k : Int) k k rfl rfl rfl rfl (Nat.le_refl _) (by omega) ?_)
    | fail)
  obtain ⟨G, HG⟩ : ∃ G, Hid (w2.heap.size = G) := ⟨_, rfl⟩
  rw [HG.out]
  obtain ⟨wa, hwa⟩ : ∃ x, x = w2.alloc (.cells (Array.replicate k (Value.int .u8 0)) 5 (0, 0)) := ⟨_, rfl⟩
  rw [← hwa]
  have GA : Hid (Blk wa G 5 (By (X.take 0 ++ List.replicate (k - 0) 0))) := (show Blk _ _ _ _ by
    have := Blk.new w2 5 (List.replicate k (Value.int .u8 0))
    rw [hwa, ← HG.out]
    simpa [By] using this)
  have LA : Hid (Below w2.heap.size w2 wa) := (show Below _ _ _ by rw [hwa]; exact (Below.refl _ _).alloc (Nat.le_refl _) _)
  have AA : Hid (At wa D S M n cap N vo vk s) := HA.out.kept LA.out
  have HGD : Hid (∀ x, ¬ x < w2.heap.size ∨ ¬ x = G) := fun x => by have := HG.out; omega
  clear hwa hi0 hz0 hz1 hz2
  go_loopg [10] k (fun g x wr => ∃ d : Nat, g + d = k ∧ x = .int .i64 (d : Int) ∧ Hid (Blk wr G 5 (By (X.take d ++ List.replicate (k - d) 0))) ∧ Hid (At wr D S M n cap N vo vk s) ∧ Hid (Below w2.heap.size w2 wr))
  case atStart => exact ⟨0, by omega, rfl, GA, AA, LA⟩
  case round =>
    obtain ⟨d, hgd, rfl, GR, AR, LR⟩ := hrel
    clear GA AA LA
    by_cases hlt : d < k
    · have q2 : (d : Int) < (k : Int) := by omega
      obtain ⟨q, HQ⟩ : ∃ q, Hid ((p + d) / 32 = q) := ⟨_, rfl⟩
      obtain ⟨o, HO⟩ : ∃ o, Hid ((p + d) % 32 = o) := ⟨_, rfl⟩
      have hqn : q < n := by have := HQ.out; omega
      have ho : o < 32 := by have := HO.out; omega
      have E1 : Hid (((p : Int) + (d : Int)) / 32 = (q : Int)) := (show _ = _ by have := HQ.out; omega)
      have E2 : Hid (((p : Int) + (d : Int)) % 32 = (o : Int)) := (show _ = _ by have := HO.out; omega)
      go_wp2_with fail
      rw [E1.out]
      refine (last_any AR.out q hqn).mono ?_
      rintro e w3' ⟨rfl, hb3⟩
      rw [HR.out.last HW.out q hqn]
      have hyl := sec_len HR.out.ok.now hqn
      obtain ⟨y, HYY⟩ : ∃ y, Hid (sec m.now q = y) := ⟨_, rfl⟩
      rw [HYY.out] at hyl ⊢
      have C1 : Hid (∀ u ∈ By y, u.oneCell' = true) := By_one y
      have HCl : (By y).length = 32 := by rw [By_length, hyl]
      obtain ⟨CL, HCL⟩ : ∃ CL, Hid (By y = CL) := ⟨_, rfl⟩
      rw [HCL.out] at C1 HCl ⊢
      have G2 : Hid (Blk w3' G 5 (By (X.take d ++ List.replicate (k - d) 0))) := GR.out.kept hb3
      have A2 : Hid (At w3' D S M n cap N vo vk s) := AR.out.kept hb3
      have L2 : Hid (Below w2.heap.size w2 w3') := LR.out.trans (hb3.mono LR.out.size)
      clear hb3
      obtain ⟨C, HC⟩ : ∃ C, Hid (w3'.heap.size = C) := ⟨_, rfl⟩
      go_upto_region 10 with (first
        | (refine wpList_store_new rfl 68 _ _ rfl w3' _ _ _ rfl rfl rfl (by simpa [HCl] using Try.size68) (by simp [hzl, HCl]) (all_one C1.out) ?_)
        | fail)
      rw [HC.out]
      obtain ⟨w3, hw3⟩ : ∃ x, x = w3'.alloc (.cells CL.toArray 68 (0, 0)) := ⟨_, rfl⟩
      rw [← hw3]
      have hb3 : Below w3'.heap.size w3' w3 := by rw [hw3]; exact (Below.refl _ _).alloc (Nat.le_refl _) _
      have G3 : Hid (Blk w3 G 5 (By (X.take d ++ List.replicate (k - d) 0))) := G2.out.kept hb3
      have A3 : Hid (At w3 D S M n cap N vo vk s) := A2.out.kept hb3
      have L3 : Hid (Below w2.heap.size w2 w3) := L2.out.trans (hb3.mono L2.out.size)
      have C3 : Hid (Blk w3 C 68 (By y)) := (show Blk _ _ _ _ by rw [hw3, ← HC.out, HCL.out]; exact Blk.new w3' 68 CL)
      clear hw3 hb3 G2 A2 L2
      obtain ⟨Y, HY⟩ : ∃ Y, Hid ((y.drop o).take (k - d) = Y) := ⟨_, rfl⟩
      obtain ⟨l, HYl⟩ : ∃ l, Hid (Y.length = l) := ⟨_, rfl⟩
      have HLL : Hid (l = min (k - d) (32 - o)) := (show _ = _ by rw [← HYl.out, ← HY.out, List.length_take, List.length_drop, hyl])
      have hl1 : 0 < l := by have := HLL.out; omega
      have hl2 : d + l ≤ k := by have := HLL.out; omega
      have hl3 : o + l ≤ 32 := by have := HLL.out; omega
      have HXd : Hid ((X.take d).length = d) := (show _ = _ by rw [List.length_take, HXl.out]; omega)
      have HYX : Hid (X.take (d + l) = X.take d ++ Y) := (show _ = _ by
        rw [List.take_add]
        congr 1
        rw [← HY.out, ← HX.out, ← HYY.out]
        exact sec_chunk HLL.out HQ.out HO.out)
      have hs1 : ∀ W, (Instr.sliceAt 29 (.slice (some ⟨G, 0, none⟩) k k) (some (.int .i64 (d : Int))) none none).run Try.prog W = .ok (.slice (some ⟨G, d, none⟩) (k - d) (k - d)) W := fun W => slice_at G k d hlt W
      have hs2 : ∀ W, (Instr.sliceAt 68 (.pointer (some ⟨C, 0, none⟩)) (some (.int .i64 (o : Int))) none none).run Try.prog W = .ok (.slice (some ⟨C, o, none⟩) (32 - o) (32 - o)) W := fun W => slice_sec C o ho W
      have HGB : Hid (w2.heap.size ≤ G) := (show _ ≤ _ by rw [HG.out]; exact Nat.le_refl _)
      refine wp_region_pivot Try.mixed (fun i_ => match i_ with | 0 | 2 | 5 => .int .i64 (d : Int) | 1 => .slice (some ⟨G, 0, none⟩) k k | 3 => .slice (some ⟨G, d, none⟩) (k - d) (k - d) | 4 => .int .i64 (p : Int) | 6 => .int .i64 ((p : Int) + (d : Int)) | 7 => .int .i64 (o : Int) | 8 => .slice (some ⟨C, o, none⟩) (32 - o) (32 - o) | 9 => .int .i64 (l : Int) | 10 | 11 => .int .i64 ((d : Int) + (l : Int)) | _ => undef) (fun w' => w'.heap = w3.heap ∧ Below w3.heap.size w3 w') (fun w' => Blk w' G 5 (By (X.take (d + l) ++ List.replicate (k - (d + l)) 0)) ∧ At w' D S M n cap N vo vk s ∧ Below w2.heap.size w2 w') 9 11 53 rfl (by decide +kernel) (by decide +kernel) ?_ ?_ ?_ (by decide)
      · exact fun w' h1 h2 => ⟨h1, h2⟩
      · refine AllFrom.cons ⟨rfl, ?_, ?_⟩ (AllFrom.cons ⟨rfl, ?_, ?_⟩ (AllFrom.cons ⟨rfl, ?_, ?_⟩ (AllFrom.cons ⟨rfl, ?_, ?_⟩ (AllFrom.cons ⟨rfl, ?_, ?_⟩ (AllFrom.cons ⟨rfl, ?_, ?_⟩ (AllFrom.cons ⟨rfl, ?_, ?_⟩ (AllFrom.cons ⟨rfl, ?_, ?_⟩ (AllFrom.cons ⟨rfl, ?_, ?_⟩ (AllFrom.cons ⟨rfl, ?_, ?_⟩ (AllFrom.cons ⟨rfl, ?_, ?_⟩ (AllFrom.cons ⟨rfl, ?_, ?_⟩ AllFrom.nil)))))))))))
        · -- 0: Op.move (Operand.tmp 10)
          intro _ a' w' hk hd
          have e10 : a'.eval (.tmp 10) = .int .i64 (d : Int) := hk 10 (by decide +kernel)
          simp only [execOp, e10]
          rfl
        · exact fun e => absurd e (by decide)
        · -- 1: Op.move (Operand.tmp 9)
          intro _ a' w' hk hd
          have e9 : a'.eval (.tmp 9) = .slice (some ⟨G, 0, none⟩) k k := hk 9 (by decide +kernel)
          simp only [execOp, e9]
          rfl
        · exact fun e => absurd e (by decide)
        · -- 2: Op.move (Operand.tmp 10)
          intro _ a' w' hk hd
          have e10 : a'.eval (.tmp 10) = .int .i64 (d : Int) := hk 10 (by decide +kernel)
          simp only [execOp, e10]
          rfl
        · exact fun e => absurd e (by decide)
        · -- 3: Op.slice 29 (Operand.tmp 42) (some (Operand.tmp 43)) none no
          intro _ a' w' hk hd
          have e42 : a'.eval (.tmp 42) = .slice (some ⟨G, 0, none⟩) k k := hd 1 42 (by decide +kernel)
          have e43 : a'.eval (.tmp 43) = .int .i64 (d : Int) := hd 2 43 (by decide +kernel)
          simp only [execOp, e42]
          simp only [Option.map_some, Option.map_none, e43, Sem.run_bind, hs1, Result.andThen_ok]
          rfl
        · exact fun e => absurd e (by decide)
        · -- 4: Op.move (Operand.tmp 1)
          intro _ a' w' hk hd
          have e1 : a'.eval (.tmp 1) = .int .i64 (p : Int) := hk 1 (by decide +kernel)
          simp only [execOp, e1]
          rfl
        · exact fun e => absurd e (by decide)
        · -- 5: Op.move (Operand.tmp 10)
          intro _ a' w' hk hd
          have e10 : a'.eval (.tmp 10) = .int .i64 (d : Int) := hk 10 (by decide +kernel)
          simp only [execOp, e10]
          rfl
        · exact fun e => absurd e (by decide)
        · -- 6: Op.binOp BinOp.add 3 (Operand.tmp 45) (Operand.tmp 46) 3
          intro _ a' w' hk hd
          have e45 : a'.eval (.tmp 45) = .int .i64 (p : Int) := hd 4 45 (by decide +kernel)
          have e46 : a'.eval (.tmp 46) = .int .i64 (d : Int) := hd 5 46 (by decide +kernel)
          clear hd hk
          simp only [execOp, e45, e46]
          go_simp
          rw [IntKind.wrap_i64]
          omega
        · exact fun e => absurd e (by decide)
        · -- 7: Op.binOp BinOp.rem 3 (Operand.tmp 47) (Operand.const (Value.
          intro _ a' w' hk hd
          have e47 : a'.eval (.tmp 47) = .int .i64 ((p : Int) + (d : Int)) := hd 6 47 (by decide +kernel)
          clear hd hk
          simp only [execOp, e47]
          go_simp
          exact E2.out
        · exact fun e => absurd e (by decide)
        · -- 8: Op.slice 68 (Operand.tmp 11) (some (Operand.tmp 48)) none no
          intro _ a' w' hk hd
          have e11 : a'.eval (.tmp 11) = .pointer (some ⟨C, 0, none⟩) := hk 11 (by decide +kernel)
          have e48 : a'.eval (.tmp 48) = .int .i64 (o : Int) := hd 7 48 (by decide +kernel)
          simp only [execOp, e11]
          simp only [Option.map_some, Option.map_none, e48, Sem.run_bind, hs2, Result.andThen_ok]
          rfl
        · exact fun e => absurd e (by decide)
        · exact fun e => absurd rfl e
        · -- 9: Op.call ( callee := Callee.builtin Builtin.copy, args := #[O
          intro _ a' w' hk hd hA
          have e44 : a'.eval (.tmp 44) = .slice (some ⟨G, d, none⟩) (k - d) (k - d) := hd 3 44 (by decide +kernel)
          have e49 : a'.eval (.tmp 49) = .slice (some ⟨C, o, none⟩) (32 - o) (32 - o) := hd 8 49 (by decide +kernel)
          obtain ⟨hh, hb⟩ := hA
          have G5 : Blk w' G 5 (By (X.take d ++ List.replicate (k - d) 0)) := G3.out.kept hb
          have C5 : Blk w' C 68 (By y) := C3.out.kept hb
          refine wp_copy_bytes (.tmp 44) (.tmp 49) 29 29 rfl 5 Try.underlying29 Try.size5 G d (k - d) (k - d) _ (y.drop o) e44 e49 (rd_secFrom C5 hyl (by omega)) Y l HY.out HYl.out (by omega) 5 _ G5 (by rw [By_length, List.length_append, List.length_replicate, HXd.out]; omega) ?_
          refine ⟨rfl, ?_, ?_, ?_⟩
          · exact read_over G5 HXd.out HYX.out HYl.out (by omega)
          · exact (A3.out.kept hb).chg (F := fun x => x = G) (Chg.of_but (But.setCells G _ _ _) rfl) (fun e => (HGD.out D).elim (fun h => h HAD.out) (fun h => h e)) (fun e => (HGD.out S).elim (fun h => h HAS.out) (fun h => h e)) (fun e => (HGD.out M).elim (fun h => h HAM.out) (fun h => h e)) (fun x hx e => (HGD.out x).elim (fun h => h (own_lt HA.out.od hx)) (fun h => h e)) (fun x hx e => (HGD.out x).elim (fun h => h (HA.out.kp.inB_lt hx)) (fun h => h e))
          · exact (L3.out.trans (hb.mono L3.out.size)).trans ((But.setCells G _ _ _).below HGB.out (by have := L3.out.size; have := hb.size; omega))
        · -- 10: Op.binOp BinOp.add 3 (Operand.tmp 41) (Operand.tmp 50) 3
          intro _ a' w' hk hd
          have e41 : a'.eval (.tmp 41) = .int .i64 (d : Int) := hd 0 41 (by decide +kernel)
          have e50 : a'.eval (.tmp 50) = .int .i64 (l : Int) := hd 9 50 (by decide +kernel)
          clear hd hk
          simp only [execOp, e41, e50]
          go_simp
          rw [IntKind.wrap_i64]
          omega
        · exact fun e => absurd e (by decide)
        · -- 11: Op.assign (Operand.tmp 51)
          intro _ a' w' hk hd
          have e51 : a'.eval (.tmp 51) = .int .i64 ((d : Int) + (l : Int)) := hd 10 51 (by decide +kernel)
          simp only [execOp, e51]
          rfl
        · exact fun e => absurd e (by decide)
      · intro a' w' hsz hdf hk hall hB
        have e41 : a'.eval (.tmp 41) = .int .i64 (d : Int) := hall 0 _ 41 rfl rfl
        have e42 : a'.eval (.tmp 42) = .slice (some ⟨G, 0, none⟩) k k := hall 1 _ 42 rfl rfl
        have e43 : a'.eval (.tmp 43) = .int .i64 (d : Int) := hall 2 _ 43 rfl rfl
        have e44 : a'.eval (.tmp 44) = .slice (some ⟨G, d, none⟩) (k - d) (k - d) := hall 3 _ 44 rfl rfl
        have e45 : a'.eval (.tmp 45) = .int .i64 (p : Int) := hall 4 _ 45 rfl rfl
        have e46 : a'.eval (.tmp 46) = .int .i64 (d : Int) := hall 5 _ 46 rfl rfl
        have e47 : a'.eval (.tmp 47) = .int .i64 ((p : Int) + (d : Int)) := hall 6 _ 47 rfl rfl
        have e48 : a'.eval (.tmp 48) = .int .i64 (o : Int) := hall 7 _ 48 rfl rfl
        have e49 : a'.eval (.tmp 49) = .slice (some ⟨C, o, none⟩) (32 - o) (32 - o) := hall 8 _ 49 rfl rfl
        have e50 : a'.eval (.tmp 50) = .int .i64 (l : Int) := hall 9 _ 50 rfl rfl
        have e51 : a'.eval (.tmp 51) = .int .i64 ((d : Int) + (l : Int)) := hall 10 _ 51 rfl rfl
        have e10 : a'.eval (.tmp 10) = .int .i64 ((d : Int) + (l : Int)) := hall 11 _ 10 rfl rfl
        have ha := act_puts 53 rfl hsz hdf hk [41, 42, 43, 44, 45, 46, 47, 48, 49, 50, 51, 10] (by decide +kernel)
        simp only [puts, List.foldl_cons, List.foldl_nil, e41, e42, e43, e44, e45, e46, e47, e48, e49, e50, e51, e10] at ha
        simp only [Act.put, List.setIfInBounds_toArray, List.set_cons_succ, List.set_cons_zero] at ha
        clear hall hk hsz hdf e41 e42 e43 e44 e45 e46 e47 e48 e49 e50 e51 e10
        subst ha
        obtain ⟨hB1, hB2, hB3⟩ := hB
        go_wp2_with fail
        go_roundg (gk - l)
        case measure => omega
        case rel => exact ⟨d + l, by omega, by go_num, hB1, hB2, hB3⟩
    · obtain rfl : d = k := by omega
      go_wp2_with fail
      go_ret2
      refine ⟨.slice (some ⟨G, 0, none⟩) d d, rfl, ?_, ?_, LR.out⟩
      · have h := GR.out
        rw [Nat.sub_self, List.replicate_zero, List.append_nil, List.take_of_length_le (by rw [HXl.out]; exact Nat.le_refl _)] at h
        refine ⟨_, d, by rw [HXl.out], by rw [HXl.out]; exact Nat.le_refl _, by unfold maxLen; omega, fun h => by simp at h, fun _ => ⟨G, 0, rfl, h.lt, fun j u hj => ?_⟩⟩
        rw [Nat.zero_add]
        exact h.cell hj
      · rintro x ⟨off, _, _, e, _⟩
        cases e
        rw [HG.out]
        exact Nat.le_refl _
end
end Go.Proofs.Ytnkcjhfdmnpckaa
