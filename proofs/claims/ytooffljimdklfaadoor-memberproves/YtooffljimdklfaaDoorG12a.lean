/-
  Texts that ride together: MbP MbN MbE MbA.
-/
import Derived.Test.YtooffljimdklfaaDoorG11n
import Derived.Test.YtooffljimdklfaaDoorG11v
/-
  Proofs, plain: where a sorted map is forked, a key's way, what may be one, where it leads, what it says.
-/
namespace Go.Proofs.YtooffljimdklfaaDoor

theorem part_count {α : Type} (q : α → Bool) : ∀ (L : List α), L.Pairwise (fun a b => q b = true → q a = true) → (∀ x ∈ L.take (L.countP q), q x = true) ∧ (∀ x ∈ L.drop (L.countP q), q x = false)
  | [], _ => by simp
  | x :: L, h => by
    obtain ⟨h1, h2⟩ := List.pairwise_cons.1 h
    obtain ⟨i1, i2⟩ := part_count q L h2
    cases hx : q x with
    | true =>
      rw [List.countP_cons_of_pos hx, List.take_succ_cons, List.drop_succ_cons]
      refine ⟨fun y hy => ?_, i2⟩
      rcases List.mem_cons.1 hy with rfl | hy
      · exact hx
      · exact i1 y hy
    | false =>
      have h0 : L.countP q = 0 := List.countP_eq_zero.2 fun y hy e => by rw [h1 y hy e] at hx; cases hx
      rw [List.countP_cons_of_neg (by simp [hx]), h0]
      refine ⟨by simp, fun y hy => ?_⟩
      rcases List.mem_cons.1 hy with rfl | hy
      · exact hx
      · cases hq : q y with
        | false => rfl
        | true => rw [h1 y hy hq] at hx; cases hx
/-- A sorted map of two or more is forked where its first and last key part. -/
theorem Srt.forks {L : List It} (h : Srt L) (h2 : 2 ≤ L.length) : Forks L (cutB L) (L.take (cutN L)) (L.drop (cutN L)) := by
  have hc := h.cut h2
  match L, h, h2, hc with
  | x :: y :: M, h, _, hc =>
    obtain ⟨z, hz⟩ : ∃ z, (y :: M).getLast? = some z := by
      cases e : (y :: M).getLast? with
      | some z => exact ⟨z, rfl⟩
      | none => exact absurd (List.getLast?_eq_none_iff.1 e) (by simp)
    have hzm : z ∈ y :: M := List.mem_of_getLast? hz
    have hcb : cutB (x :: y :: M) = apart x.1 z.1 := by
      unfold cutB
      rw [List.head?_cons, List.getLast?_cons_cons, hz]
    have hlast : ∀ u ∈ x :: y :: M, u = z ∨ lss u.1 z.1 = true := by
      have e : (x :: y :: M).getLast? = some z := by rw [List.getLast?_cons_cons, hz]
      intro u hu
      obtain ⟨ys, hys⟩ := List.getLast?_eq_some_iff.1 e
      rw [hys] at hu h
      rcases List.mem_append.1 hu with hu | hu
      · exact .inr ((List.pairwise_append.1 h).2.2 u hu z (by simp))
      · exact .inl (by simpa using hu)
    have hl : lss x.1 z.1 = true := h.head _ hzm
    have hlt : apart x.1 z.1 < 256 := by
      unfold lss at hl
      rw [Bool.and_eq_true, decide_eq_true_eq] at hl
      exact hl.1
    have hx : ∀ u ∈ x :: y :: M, ∀ j, j < apart x.1 z.1 → bit u.1 j = bit x.1 j := by
      intro u hu j hj
      rcases List.mem_cons.1 hu with rfl | hu'
      · rfl
      have hxu : lss x.1 u.1 = true := h.head _ hu'
      obtain ⟨p, hp, he, h0, h1⟩ := lss_iff.1 hxu
      rcases Nat.lt_or_ge j p with hjp | hjp
      · exact (he j hjp).symm
      exfalso
      have hpz : bit z.1 p = false := by rw [← apart_eq (a := x.1) (b := z.1) (by omega)]; exact h0
      have hzu : lss z.1 u.1 = true := lss_iff.2 ⟨p, hp, fun q hq => by rw [← apart_eq (a := x.1) (b := z.1) (by omega)]; exact he q hq, hpz, h1⟩
      rcases hlast u hu with rfl | hlu
      · rw [lss_irrefl] at hzu; cases hzu
      · rw [lss_asymm hlu] at hzu; cases hzu
    have hag : Agree (x :: y :: M) (cutB (x :: y :: M)) := fun u hu v hv j hj => by rw [hcb] at hj; rw [hx u hu j hj, hx v hv j hj]
    have hpw : (x :: y :: M).Pairwise (fun a b => (!(bit b.1 (cutB (x :: y :: M)))) = true → (!(bit a.1 (cutB (x :: y :: M)))) = true) := by
      refine List.Pairwise.imp_of_mem ?_ h
      intro a b ha hb hab
      simp only [Bool.not_eq_true']
      intro h0
      cases h1 : bit a.1 (cutB (x :: y :: M)) with
      | false => rfl
      | true =>
        have : lss b.1 a.1 = true := lss_iff.2 ⟨cutB (x :: y :: M), by rw [hcb]; exact hlt, hag b hb a ha, h0, h1⟩
        rw [lss_asymm hab] at this
        cases this
    obtain ⟨p1, p2⟩ := part_count _ _ hpw
    refine ⟨(List.take_append_drop _ _).symm, ?_, ?_, by rw [hcb]; exact hlt, fun u hu => by simpa using p1 u hu, fun u hu => by simpa using p2 u hu, hag⟩
    · intro e
      have := congrArg List.length e
      rw [List.length_take, List.length_nil] at this
      omega
    · intro e
      have := congrArg List.length e
      rw [List.length_drop, List.length_nil] at this
      omega
/-- Whose bit is 1: those from the cut on. -/
theorem Srt.cut_at {L : List It} (h : Srt L) (h2 : 2 ≤ L.length) {i : Nat} {x : It} (hi : L[i]? = some x) : bit x.1 (cutB L) = decide (cutN L ≤ i) := by
  have hF := h.forks h2
  by_cases hc : cutN L ≤ i
  · rw [decide_eq_true hc]
    refine hF.one x (List.mem_of_getElem? (i := i - cutN L) ?_)
    rw [List.getElem?_drop, show cutN L + (i - cutN L) = i by omega, hi]
  · rw [decide_eq_false hc]
    refine hF.zero x (List.mem_of_getElem? (i := i) ?_)
    rw [List.getElem?_take, if_pos (by omega), hi]

/-- A step: a fork's bit, and the root of the side on which the key is not. -/
abbrev Sp := Int × Hs
/-- A proof: the steps, whether there is an item, its key and value. -/
abbrev Pr := List Sp × Bool × Hs × Hs
def wayF : Nat → List It → Hs → List Sp × Option It
  | 0, _, _ => ([], none)
  | _ + 1, [], _ => ([], none)
  | _ + 1, [x], _ => ([], some x)
  | n + 1, x :: y :: L, k =>
    if bit k (cutB (x :: y :: L)) then (((cutB (x :: y :: L) : Int), rootP ((x :: y :: L).take (cutN (x :: y :: L)))) :: (wayF n ((x :: y :: L).drop (cutN (x :: y :: L))) k).1, (wayF n ((x :: y :: L).drop (cutN (x :: y :: L))) k).2)
    else (((cutB (x :: y :: L) : Int), rootP ((x :: y :: L).drop (cutN (x :: y :: L)))) :: (wayF n ((x :: y :: L).take (cutN (x :: y :: L))) k).1, (wayF n ((x :: y :: L).take (cutN (x :: y :: L))) k).2)
theorem wayF_any (k : Hs) : ∀ (n m : Nat) (L : List It), Srt L → L.length < n → L.length < m → wayF n L k = wayF m L k
  | 0, _, _, _, h, _ => absurd h (by omega)
  | _, 0, _, _, _, h => absurd h (by omega)
  | n + 1, m + 1, [], _, _, _ => rfl
  | n + 1, m + 1, [x], _, _, _ => rfl
  | n + 1, m + 1, x :: y :: L, hs, h1, h2 => by
    have hc := hs.cut (by simp)
    simp only [wayF]
    rw [wayF_any k n m _ (hs.sub (List.take_sublist _ _)) (by rw [List.length_take]; omega) (by rw [List.length_take]; omega), wayF_any k n m _ (hs.sub (List.drop_sublist _ _)) (by rw [List.length_drop]; omega) (by rw [List.length_drop]; omega)]
/-- A key's way through a map: its steps, and where it ends. -/
def wayP (L : List It) (k : Hs) : List Sp × Option It := wayF (L.length + 1) L k
theorem wayP_nil (k : Hs) : wayP [] k = ([], none) := rfl
theorem wayP_one (x : It) (k : Hs) : wayP [x] k = ([], some x) := rfl
theorem wayP_two {L : List It} (hs : Srt L) (h2 : 2 ≤ L.length) (k : Hs) : wayP L k =
    if bit k (cutB L) then (((cutB L : Int), rootP (L.take (cutN L))) :: (wayP (L.drop (cutN L)) k).1, (wayP (L.drop (cutN L)) k).2)
    else (((cutB L : Int), rootP (L.drop (cutN L))) :: (wayP (L.take (cutN L)) k).1, (wayP (L.take (cutN L)) k).2) := by
  have hc := hs.cut h2
  match L, hs, h2, hc with
  | x :: y :: M, hs, _, hc =>
    unfold wayP
    rw [wayF]
    rw [wayF_any k _ _ _ (hs.sub (List.take_sublist _ _)) (by rw [List.length_take]; omega) (Nat.lt_succ_self _), wayF_any k _ _ _ (hs.sub (List.drop_sublist _ _)) (by rw [List.length_drop]; omega) (Nat.lt_succ_self _)]
/-- The side on which a key is. -/
def sideP (L : List It) (k : Hs) : List It := if bit k (cutB L) then L.drop (cutN L) else L.take (cutN L)
def otherP (L : List It) (k : Hs) : List It := if bit k (cutB L) then L.take (cutN L) else L.drop (cutN L)
theorem wayP_step {L : List It} (hs : Srt L) (h2 : 2 ≤ L.length) (k : Hs) : wayP L k = (((cutB L : Int), rootP (otherP L k)) :: (wayP (sideP L k) k).1, (wayP (sideP L k) k).2) := by
  rw [wayP_two hs h2]
  unfold sideP otherP
  split <;> rfl
theorem sideP_srt {L : List It} (hs : Srt L) (k : Hs) : Srt (sideP L k) := by
  unfold sideP
  split
  · exact hs.sub (List.drop_sublist _ _)
  · exact hs.sub (List.take_sublist _ _)
theorem otherP_srt {L : List It} (hs : Srt L) (k : Hs) : Srt (otherP L k) := by
  unfold otherP
  split
  · exact hs.sub (List.take_sublist _ _)
  · exact hs.sub (List.drop_sublist _ _)
theorem sideP_len {L : List It} (hs : Srt L) (h2 : 2 ≤ L.length) (k : Hs) : 0 < (sideP L k).length ∧ (sideP L k).length < L.length := by
  have hc := hs.cut h2
  unfold sideP
  split
  · rw [List.length_drop]; omega
  · rw [List.length_take]; omega
/-- What shows what a key has. -/
def prP (L : List It) (k : Hs) : Pr := match wayP L k with
  | (l, some x) => (l, true, x.1, x.2)
  | (_, none) => ([], false, zh, zh)
theorem way_end {k : Hs} : ∀ (n : Nat) (L : List It), L.length = n → Srt L → L ≠ [] → ∃ x, x ∈ L ∧ (wayP L k).2 = some x := by
  intro n
  induction n using Nat.strongRecOn with
  | _ n ih =>
    intro L hn hs hne
    match L, hn, hs, hne with
    | [x], _, _, _ => exact ⟨x, by simp, rfl⟩
    | x :: y :: M, hn, hs, _ =>
      have hl := sideP_len hs (by simp) k
      rw [wayP_step hs (by simp)]
      obtain ⟨z, hz, e⟩ := ih _ (by omega) (sideP (x :: y :: M) k) rfl (sideP_srt hs k) (fun e => by rw [e] at hl; simp at hl)
      refine ⟨z, ?_, e⟩
      unfold sideP at hz
      split at hz
      · exact List.mem_of_mem_drop hz
      · exact List.mem_of_mem_take hz
/-- Bits rise. -/
def rises : Int → List Sp → Bool
  | _, [] => true
  | b, s :: l => !(decide (s.1 ≤ b)) && !(decide (255 < s.1)) && rises s.1 l
def goodP (p : Pr) : Bool := if p.2.1 then rises (-1) p.1 else decide (p.1.length = 0) && (decide (p.2.2.1 = zh) && decide (p.2.2.2 = zh))
def leadsP (k : Hs) (p : Pr) : Bool := p.1.all fun s => decide (bitZ p.2.2.1 s.1 = bitZ k s.1)
def joinP (k : Hs) (s : Sp) (h : Hs) : Hs := if bitZ k s.1 = 0 then fkH s.1.toNat h s.2 else fkH s.1.toNat s.2 h
def climbF (k : Hs) : List Sp → Hs → Hs
  | [], h => h
  | s :: l, h => joinP k s (climbF k l h)
def startP (p : Pr) : Hs := if p.2.1 then itH p.2.2.1 p.2.2.2 else ntH
def climbP (k : Hs) (p : Pr) : Hs × Bool := if goodP p && leadsP k p then (climbF k p.1 (startP p), true) else (zh, false)
def checkP (r k : Hs) (p : Pr) : Hs × Bool × Bool := if (climbP k p).2 && decide ((climbP k p).1 = r) then (if p.2.1 && decide (p.2.2.1 = k) then (p.2.2.2, true, true) else (zh, false, true)) else (zh, false, false)

theorem bitZ_cut (k : Hs) (i : Nat) : bitZ k (i : Int) = if bit k i then 1 else 0 := by rw [bitZ_nat]; rfl
theorem bitZ_same {a b : Hs} {i : Nat} : bitZ a (i : Int) = bitZ b (i : Int) ↔ bit a i = bit b i := by
  rw [bitZ_cut, bitZ_cut]
  cases bit a i <;> cases bit b i <;> simp
/-- The way of a key through a map: its bits rise, its end goes the same way; whoever goes that way comes to the root, and the map has of it what stands at the end. -/
theorem way_all (k : Hs) : ∀ (n : Nat) (L : List It) (x : It), L.length = n → Srt L → (wayP L k).2 = some x →
    x ∈ L ∧ (∀ b : Int, -1 ≤ b → (∀ j : Nat, (j : Int) ≤ b → ∀ u ∈ L, ∀ v ∈ L, bit u.1 j = bit v.1 j) → rises b (wayP L k).1 = true) ∧
    (∀ s ∈ (wayP L k).1, bitZ x.1 s.1 = bitZ k s.1) ∧
    (∀ q : Hs, (∀ s ∈ (wayP L k).1, bitZ x.1 s.1 = bitZ q s.1) → climbF q (wayP L k).1 (itH x.1 x.2) = rootP L ∧ getP L q = if x.1 = q then some x.2 else none) := by
  intro n
  induction n using Nat.strongRecOn with
  | _ n ih =>
    intro L x hn hs hx
    match L, hn, hs, hx with
    | [], _, _, hx => rw [wayP_nil] at hx; cases hx
    | [y], _, _, hx =>
      rw [wayP_one] at hx ⊢
      simp only [Option.some.injEq] at hx
      subst hx
      refine ⟨by simp, fun _ _ _ => rfl, by simp, fun q _ => ⟨rfl, ?_⟩⟩
      simp [getP]
    | y :: z :: M, hn, hs, hx =>
      have h2 : 2 ≤ (y :: z :: M).length := by simp
      generalize y :: z :: M = L at hn hs hx h2
      have hF := hs.forks h2
      have hl := sideP_len hs h2 k
      rw [wayP_step hs h2] at hx ⊢
      simp only at hx ⊢
      obtain ⟨i1, i2, i3, i4⟩ := ih _ (by omega) (sideP L k) x rfl (sideP_srt hs k) hx
      have hin : ∀ u ∈ sideP L k, u ∈ L ∧ bit u.1 (cutB L) = bit k (cutB L) := by
        intro u hu
        unfold sideP at hu
        cases hb : bit k (cutB L) with
        | true =>
          rw [hb, if_pos rfl] at hu
          exact ⟨hF.inB hu, hF.one u hu⟩
        | false =>
          rw [hb, if_neg (by decide)] at hu
          exact ⟨hF.inA hu, hF.zero u hu⟩
      have hlt := hF.lt
      refine ⟨(hin x i1).1, fun b hb1 hb => ?_, fun s h' => ?_, fun q hq => ?_⟩
      · unfold rises
        have hgt : b < (cutB L : Int) := by
          rcases Int.lt_or_le b (cutB L : Int) with h | h
          · exact h
          · exfalso
            obtain ⟨a, A', eA⟩ := List.exists_cons_of_ne_nil hF.hA
            obtain ⟨c, B', eB⟩ := List.exists_cons_of_ne_nil hF.hB
            have h1 := hF.zero a (by rw [eA]; simp)
            have h3 := hF.one c (by rw [eB]; simp)
            have := hb (cutB L) h a (hF.inA (by rw [eA]; simp)) c (hF.inB (by rw [eB]; simp))
            rw [h1, h3] at this
            cases this
        rw [decide_eq_false (by omega), decide_eq_false (by omega)]
        simp only [Bool.not_false, Bool.true_and]
        refine i2 _ (by omega) (fun j hj u hu v hv => ?_)
        rcases Nat.lt_or_ge j (cutB L) with h | h
        · exact hF.same u (hin u hu).1 v (hin v hv).1 j h
        · have : j = cutB L := by omega
          subst this
          rw [(hin u hu).2, (hin v hv).2]
      · rcases List.mem_cons.1 h' with rfl | h'
        · simp only
          rw [bitZ_same]
          exact (hin x i1).2
        · exact i3 s h'
      · have hq0 := hq _ (List.mem_cons_self ..)
        simp only at hq0
        rw [bitZ_same, (hin x i1).2] at hq0
        obtain ⟨j1, j2⟩ := i4 q (fun s h' => hq s (List.mem_cons_of_mem _ h'))
        constructor
        · rw [climbF, j1]
          unfold joinP
          simp only
          rw [bitZ_cut, ← hq0, Int.toNat_natCast]
          unfold sideP otherP
          have hr := rootP_two hs h2
          cases hb : bit k (cutB L) with
          | true => simp only [if_true]; rw [if_neg (by decide)]; exact hr.symm
          | false => simp only [if_false, Bool.false_eq_true, if_true]; exact hr.symm
        · rw [← j2]
          unfold sideP
          cases hb : bit k (cutB L) with
          | true => rw [if_pos rfl]; exact (hF.getR (by rw [← hq0, hb])).1
          | false => rw [if_neg (by decide)]; exact (hF.getL (by rw [← hq0, hb])).1
theorem prP_nil (k : Hs) : prP [] k = ([], false, zh, zh) := rfl
theorem prP_some {L : List It} {k : Hs} {x : It} (h : (wayP L k).2 = some x) : prP L k = ((wayP L k).1, true, x.1, x.2) := by
  unfold prP
  generalize wayP L k = y at h ⊢
  obtain ⟨a, b⟩ := y
  simp only at h
  subst h
  rfl
/-- What Check says of what Prove tells, asked for any key. -/
theorem check_prove {L : List It} (hs : Srt L) (k q : Hs) : goodP (prP L k) = true ∧ leadsP k (prP L k) = true ∧ checkP (rootP L) q (prP L k) = if leadsP q (prP L k) then (valP L q, hasP L q, true) else (zh, false, false) := by
  by_cases hne : L = []
  · subst hne
    refine ⟨by rw [prP_nil]; decide, rfl, ?_⟩
    rw [prP_nil]
    have h1 : leadsP q ([], false, zh, zh) = true := rfl
    have h2 : climbP q ([], false, zh, zh) = (ntH, true) := by
      unfold climbP
      rw [h1, show goodP ([], false, zh, zh) = true by decide]
      rfl
    unfold checkP
    rw [h1, h2, rootP_nil]
    simp [valP, hasP, getP]
  · obtain ⟨x, hxm, hx⟩ := way_end (k := k) _ L rfl hs hne
    obtain ⟨i1, i2, i3, i4⟩ := way_all k _ L x rfl hs hx
    rw [prP_some hx]
    have hg : goodP ((wayP L k).1, true, x.1, x.2) = true := i2 (-1) (by omega) (fun j hj => absurd hj (by omega))
    have hld : ∀ z, leadsP z ((wayP L k).1, true, x.1, x.2) = true ↔ ∀ s ∈ (wayP L k).1, bitZ x.1 s.1 = bitZ z s.1 := fun z => by
      unfold leadsP
      simp
    refine ⟨hg, (hld k).2 i3, ?_⟩
    unfold checkP climbP
    rw [hg]
    cases hl : leadsP q ((wayP L k).1, true, x.1, x.2) with
    | false => rfl
    | true =>
      obtain ⟨j1, j2⟩ := i4 q ((hld q).1 hl)
      have : climbF q ((wayP L k).1, true, x.1, x.2).1 (startP ((wayP L k).1, true, x.1, x.2)) = rootP L := j1
      rw [this]
      simp only [Bool.and_self, if_true, decide_true, Bool.true_and]
      unfold valP hasP
      rw [j2]
      by_cases hk : x.1 = q
      · simp [hk]
      · simp [hk]
#print axioms check_prove
end Go.Proofs.YtooffljimdklfaaDoor

/-
  Steps, proofs, ends and parts in memory: their cells, how they are built and held against each other.
-/
namespace Go.Proofs.YtooffljimdklfaaDoor
open Go.RowKit

theorem over_mid {A X B Y : List Value} {n : Nat} (hA : A.length = n) (h : X.length = Y.length) : over (A ++ (X ++ B)) n Y = A ++ (Y ++ B) := by
  unfold over
  rw [List.take_left' hA, ← List.append_assoc, List.drop_left' (by rw [List.length_append]; omega), List.append_assoc]
theorem over_end {A X Y : List Value} {n : Nat} (hA : A.length = n) (h : X.length = Y.length) : over (A ++ X) n Y = A ++ Y := by
  have := over_mid (A := A) (X := X) (B := []) (Y := Y) hA h
  simpa using this
/-- Steps as cells. -/
def SE : Enc Sp := ⟨fun s => .int .i64 s.1 :: By s.2.1, 33, fun s => by rw [List.length_cons, By_len], fun s u hu => by
  rcases List.mem_cons.1 hu with rfl | h
  · rfl
  · exact By_one _ u h⟩
theorem SE_len (s : Sp) : (SE.c s).length = 33 := SE.len s
def zs : Sp := (0, zh)
theorem SEeq (s : Sp) : SE.c s = [.int .i64 s.1] ++ By s.2.1 := rfl
theorem Tryd.sizeS (s : Sp) : (Tryd.prog.info? 70).map (·.size) = some (SE.c s).length := by rw [SE_len]; kernel_rfl
theorem Tryd.sizeS' : (Tryd.prog.info? 70).map (·.size) = some SE.n := by kernel_rfl
theorem Tryd.sizeR (s : Sp) : (Tryd.prog.info? 69).map (·.size) = some (SE.c s).length := by rw [SE_len]; kernel_rfl
theorem Tryd.sizeR' : (Tryd.prog.info? 69).map (·.size) = some SE.n := by kernel_rfl
theorem rangeAt_sub {w : World} {b o : Nat} {cs : List Value} (h : w.rangeAt b o cs) (k : Nat) (ds : List Value) (hd : ∀ j u, ds[j]? = some u → cs[k + j]? = some u) : w.rangeAt b (o + k) ds := fun j u hj => by
  have := h (k + j) u (hd j u hj)
  rwa [← Nat.add_assoc] at this
theorem SEbit {w : World} {b o : Nat} {s : Sp} (h : w.rangeAt b o (SE.c s)) : w.cell? ⟨b, o, none⟩ = some (.int .i64 s.1) := h 0 _ rfl
theorem SEside {w : World} {b o : Nat} {s : Sp} (h : w.rangeAt b o (SE.c s)) : w.rangeAt b (o + 1) (By s.2.1) := rangeAt_sub h 1 _ fun j u hj => by
  rw [SEeq, List.getElem?_append_right (by simp)]
  simpa using hj
/-- What stands at a way's end. -/
abbrev En := Bool × Hs × Hs
def EN : Enc En := ⟨fun x => .bool x.1 :: (By x.2.1.1 ++ By x.2.2.1), 65, fun x => by rw [List.length_cons, List.length_append, By_len, By_len], fun x u hu => by
  rcases List.mem_cons.1 hu with rfl | h
  · rfl
  rcases List.mem_append.1 h with h | h
  · exact By_one _ u h
  · exact By_one _ u h⟩
theorem EN_len (x : En) : (EN.c x).length = 65 := EN.len x
def ze : En := (false, zh, zh)
theorem ENeq (x : En) : EN.c x = [.bool x.1] ++ (By x.2.1.1 ++ By x.2.2.1) := rfl
theorem ENeq2 (x : En) : EN.c x = ([.bool x.1] ++ By x.2.1.1) ++ By x.2.2.1 := rfl
theorem Tryd.sizeE (x : En) : (Tryd.prog.info? 79).map (·.size) = some (EN.c x).length := by rw [EN_len]; kernel_rfl
theorem Tryd.sizeE' : (Tryd.prog.info? 79).map (·.size) = some EN.n := by kernel_rfl
theorem ENleaf {w : World} {b o : Nat} {x : En} (h : w.rangeAt b o (EN.c x)) : w.cell? ⟨b, o, none⟩ = some (.bool x.1) := h 0 _ rfl
theorem ENkey {w : World} {b o : Nat} {x : En} (h : w.rangeAt b o (EN.c x)) : w.rangeAt b (o + 1) (By x.2.1.1) := rangeAt_sub h 1 _ fun j u hj => by
  have hl := (List.getElem?_eq_some_iff.1 hj).1
  rw [ENeq, List.getElem?_append_right (by simp), List.getElem?_append_left (by simp; omega)]
  simpa using hj
theorem ENval {w : World} {b o : Nat} {x : En} (h : w.rangeAt b o (EN.c x)) : w.rangeAt b (o + 33) (By x.2.2.1) := rangeAt_sub h 33 _ fun j u hj => by
  rw [ENeq2, List.getElem?_append_right (by simp [By_len])]
  simp only [List.length_append, List.length_cons, List.length_nil, By_len]
  rw [show 33 + j - (0 + 1 + 32) = j by omega]
  exact hj
/-- A proof's cells; v: where its steps lie. -/
def PrC (v : Value) (p : Pr) : List Value := v :: .bool p.2.1 :: (By p.2.2.1.1 ++ By p.2.2.2.1)
theorem PrC_len (v : Value) (p : Pr) : (PrC v p).length = 66 := by simp [PrC, By_len]
def zp : Pr := ([], false, zh, zh)
theorem PrCeq (v : Value) (p : Pr) : PrC v p = [v] ++ EN.c p.2 := rfl
theorem PrC_one {a : Option Addr} {n c : Nat} (p : Pr) : ∀ u ∈ PrC (.slice a n c) p, u.oneCell' = true := fun u hu => by
  rcases List.mem_cons.1 hu with rfl | h
  · rfl
  · exact EN.one p.2 u h
theorem Tryd.sizePr (v : Value) (p : Pr) : (Tryd.prog.info? 39).map (·.size) = some (PrC v p).length := by rw [PrC_len]; kernel_rfl
theorem Tryd.sizeRp (v : Value) (p : Pr) : (Tryd.prog.info? 35).map (·.size) = some (PrC v p).length := by rw [PrC_len]; kernel_rfl
section
variable {w : World} {b : Nat} {T : TypeId} {v : Value} {p : Pr}
theorem PrC.end (h : Blk w b T (PrC v p)) : w.rangeAt b 1 (EN.c p.2) := h.range 1 _ fun j u hj => by
  rw [PrCeq, List.getElem?_append_right (by simp)]
  simpa using hj
theorem PrC.steps (h : Blk w b T (PrC v p)) : w.cell? ⟨b, 0, none⟩ = some v := h.cell rfl
theorem PrC.leaf (h : Blk w b T (PrC v p)) : w.cell? ⟨b, 1, none⟩ = some (.bool p.2.1) := h.cell rfl
theorem PrC.key (h : Blk w b T (PrC v p)) : w.rangeAt b 2 (By p.2.2.1.1) := ENkey (PrC.end h)
theorem PrC.value (h : Blk w b T (PrC v p)) : w.rangeAt b 34 (By p.2.2.2.1) := ENval (PrC.end h)
end
/-- A part's cells: root, end, bit, sides. -/
def PaC (r : Hs) (e : En) (i : Int) (l q : Value) : List Value := By r.1 ++ (EN.c e ++ [.int .i64 i, l, q])
theorem PaC_len (r : Hs) (e : En) (i : Int) (l q : Value) : (PaC r e i l q).length = 100 := by simp [PaC, By_len, EN_len]
section
variable {w : World} {b : Nat} {T : TypeId} {r : Hs} {e : En} {i : Int} {l q : Value}
theorem PaC.root (h : Blk w b T (PaC r e i l q)) : w.rangeAt b 0 (By r.1) := h.range 0 _ fun j u hj => by
  have hl := (List.getElem?_eq_some_iff.1 hj).1
  unfold PaC
  rw [Nat.zero_add, List.getElem?_append_left hl]
  exact hj
theorem PaC.end (h : Blk w b T (PaC r e i l q)) : w.rangeAt b 32 (EN.c e) := h.range 32 _ fun j u hj => by
  have hl := (List.getElem?_eq_some_iff.1 hj).1
  unfold PaC
  rw [List.getElem?_append_right (by rw [By_len]; omega), By_len, Nat.add_sub_cancel_left, List.getElem?_append_left hl]
  exact hj
theorem PaC.tail (h : Blk w b T (PaC r e i l q)) {j : Nat} {u : Value} (hj : ([.int .i64 i, l, q] : List Value)[j]? = some u) : w.cell? ⟨b, 97 + j, none⟩ = some u := h.cell (by
  unfold PaC
  rw [List.getElem?_append_right (by rw [By_len]; omega), By_len, List.getElem?_append_right (by rw [EN_len]; omega), EN_len, show 97 + j - 32 - 65 = j by omega]
  exact hj)
theorem PaC.bit (h : Blk w b T (PaC r e i l q)) : w.cell? ⟨b, 97, none⟩ = some (.int .i64 i) := PaC.tail h (j := 0) rfl
theorem PaC.left (h : Blk w b T (PaC r e i l q)) : w.cell? ⟨b, 98, none⟩ = some l := PaC.tail h (j := 1) rfl
theorem PaC.right (h : Blk w b T (PaC r e i l q)) : w.cell? ⟨b, 99, none⟩ = some q := PaC.tail h (j := 2) rfl
end
/-- The part at block b has the items of L. -/
def PtF (w : World) : Nat → Nat → List It → Prop
  | 0, _, _ => False
  | n + 1, b, L => (∃ x, L = [x] ∧ Blk w b 113 (PaC (itH x.1 x.2) (true, x.1, x.2) 0 (.pointer none) (.pointer none))) ∨
      (2 ≤ L.length ∧ ∃ bl br, Blk w b 113 (PaC (rootP L) ze (cutB L : Int) (PT bl) (PT br)) ∧ PtF w n bl (L.take (cutN L)) ∧ PtF w n br (L.drop (cutN L)))
def Pt (w : World) (b : Nat) (L : List It) : Prop := ∃ n, PtF w n b L
theorem PtF.kept {w w' : World} (hb : Below w.heap.size w w') : ∀ {n b : Nat} {L : List It}, PtF w n b L → PtF w' n b L
  | 0, _, _, h => h
  | n + 1, b, L, h => by
    rcases h with ⟨x, e, hB⟩ | ⟨h2, bl, br, hB, h3, h4⟩
    · exact .inl ⟨x, e, hB.kept hb⟩
    · exact .inr ⟨h2, bl, br, hB.kept hb, h3.kept hb, h4.kept hb⟩
theorem PtF.more {w : World} : ∀ {n m b : Nat} {L : List It}, n ≤ m → PtF w n b L → PtF w m b L
  | 0, _, _, _, _, h => h.elim
  | n + 1, 0, _, _, hm, _ => absurd hm (by omega)
  | n + 1, m + 1, b, L, hm, h => by
    rcases h with ⟨x, e, hB⟩ | ⟨h2, bl, br, hB, h3, h4⟩
    · exact .inl ⟨x, e, hB⟩
    · exact .inr ⟨h2, bl, br, hB, h3.more (by omega), h4.more (by omega)⟩
theorem Pt.kept {w w' : World} {b : Nat} {L : List It} (h : Pt w b L) (hb : Below w.heap.size w w') : Pt w' b L := by
  obtain ⟨n, h⟩ := h
  exact ⟨n, h.kept hb⟩
theorem Pt.one {w : World} {b : Nat} {x : It} (hB : Blk w b 113 (PaC (itH x.1 x.2) (true, x.1, x.2) 0 (.pointer none) (.pointer none))) : Pt w b [x] := ⟨1, .inl ⟨x, rfl, hB⟩⟩
theorem Pt.two {w : World} {b : Nat} {L : List It} (h2 : 2 ≤ L.length) {bl br : Nat} (hB : Blk w b 113 (PaC (rootP L) ze (cutB L : Int) (PT bl) (PT br))) (h3 : Pt w bl (L.take (cutN L))) (h4 : Pt w br (L.drop (cutN L))) : Pt w b L := by
  obtain ⟨n, h3⟩ := h3
  obtain ⟨m, h4⟩ := h4
  exact ⟨n + m + 1, .inr ⟨h2, bl, br, hB, h3.more (by omega), h4.more (by omega)⟩⟩
theorem Pt.cases {w : World} {b : Nat} {L : List It} (h : Pt w b L) : (∃ x, L = [x] ∧ Blk w b 113 (PaC (itH x.1 x.2) (true, x.1, x.2) 0 (.pointer none) (.pointer none))) ∨
      (2 ≤ L.length ∧ ∃ bl br, Blk w b 113 (PaC (rootP L) ze (cutB L : Int) (PT bl) (PT br)) ∧ Pt w bl (L.take (cutN L)) ∧ Pt w br (L.drop (cutN L))) := by
  obtain ⟨n, h⟩ := h
  match n, h with
  | n + 1, h =>
    rcases h with h | ⟨h2, bl, br, hB, h3, h4⟩
    · exact .inl h
    · exact .inr ⟨h2, bl, br, hB, ⟨n, h3⟩, ⟨n, h4⟩⟩
theorem Pt.root {w : World} {b : Nat} {L : List It} (h : Pt w b L) : w.rangeAt b 0 (By (rootP L).1) ∧ b < w.heap.size := by
  rcases h.cases with ⟨x, rfl, hB⟩ | ⟨_, bl, br, hB, _⟩
  · exact ⟨PaC.root hB, hB.lt⟩
  · exact ⟨PaC.root hB, hB.lt⟩
/-- The top of the parts: nil, where there is none. -/
def Top (w : World) (v : Value) (L : List It) : Prop := (L = [] ∧ v = .pointer none) ∨ ∃ b, v = PT b ∧ Pt w b L
theorem Top.kept {w w' : World} {v : Value} {L : List It} (h : Top w v L) (hb : Below w.heap.size w w') : Top w' v L := by
  rcases h with h | ⟨b, e, h⟩
  · exact .inl h
  · exact .inr ⟨b, e, h.kept hb⟩

theorem built_end (parts : List (Nat × Value)) : Tryd.prog.built 79 parts = Instr.fill ((#[(0, 1), (1, 32), (33, 32)] : Array (Nat × Nat))[·]?) (EN.c ze).toArray parts := by kernel_rfl
theorem build_end (l : Bool) (k v : Hs) (w : World) : (Instr.build 79 #[(0, .bool l), (1, .agg (By k.1).toArray), (2, .agg (By v.1).toArray)]).run Tryd.prog w = .ok (.agg (EN.c (l, k, v)).toArray) w := by
  refine run_build w _ _ _ ?_
  rw [built_end]
  rw [fill_one _ _ _ 0 0 _ rfl rfl (by rw [EN_len]; decide), ENeq, show over ([Value.bool ze.1] ++ (By ze.2.1.1 ++ By ze.2.2.1)) 0 [.bool l] = [Value.bool l] ++ (By zh.1 ++ By zh.1) from over_mid (A := []) rfl rfl,
    fill_row _ _ _ 1 1 _ (by rw [By_len]; rfl) (by simp [By_len]), over_mid (n := 1) (A := [Value.bool l]) rfl (by rw [By_len, By_len]), ← List.append_assoc,
    fill_row _ _ _ 2 33 _ (by rw [By_len]; rfl) (by simp [By_len]), over_end (by simp [By_len]) (by rw [By_len, By_len])]
  rfl
theorem build_end0 (w : World) : (Instr.build 79 #[]).run Tryd.prog w = .ok (.agg (EN.c ze).toArray) w := run_build w _ _ _ (by rw [built_end]; rfl)
theorem built_proof (parts : List (Nat × Value)) : Tryd.prog.built 39 parts = Instr.fill ((#[(0, 1), (1, 1), (2, 32), (34, 32)] : Array (Nat × Nat))[·]?) (PrC (.slice none 0 0) zp).toArray parts := by kernel_rfl
theorem built_rproof (parts : List (Nat × Value)) : Tryd.prog.built 35 parts = Instr.fill ((#[(0, 1), (1, 1), (2, 32), (34, 32)] : Array (Nat × Nat))[·]?) (PrC (.slice none 0 0) zp).toArray parts := by kernel_rfl
theorem fill_proof (s : Value) (l : Bool) (k v : Hs) : Instr.fill ((#[(0, 1), (1, 1), (2, 32), (34, 32)] : Array (Nat × Nat))[·]?) ([s] ++ EN.c ze).toArray [(1, .bool l), (2, .agg (By k.1).toArray), (3, .agg (By v.1).toArray)] = some ([s] ++ EN.c (l, k, v)).toArray := by
  rw [fill_one _ _ _ 1 1 _ rfl rfl (by simp [EN_len]), ENeq, over_mid (n := 1) (A := [s]) (X := [Value.bool ze.1]) (Y := [Value.bool l]) rfl rfl, ← List.append_assoc,
    fill_row _ _ _ 2 2 _ (by rw [By_len]; rfl) (by simp [By_len]), over_mid (n := 2) (A := [s] ++ [Value.bool l]) rfl (by rw [By_len, By_len]), ← List.append_assoc,
    fill_row _ _ _ 3 34 _ (by rw [By_len]; rfl) (by simp [By_len]), over_end (by simp [By_len]) (by rw [By_len, By_len])]
  rfl
theorem build_proof (a : Option Addr) (n c : Nat) (L : List Sp) (l : Bool) (k v : Hs) (w : World) : (Instr.build 39 #[(0, .slice a n c), (1, .bool l), (2, .agg (By k.1).toArray), (3, .agg (By v.1).toArray)]).run Tryd.prog w = .ok (.agg (PrC (.slice a n c) (L, l, k, v)).toArray) w := by
  refine run_build w _ _ _ ?_
  rw [built_proof]
  rw [fill_one _ _ _ 0 0 _ rfl rfl (by rw [PrC_len]; decide), PrCeq, show over ([Value.slice none 0 0] ++ EN.c zp.2) 0 [Value.slice a n c] = [Value.slice a n c] ++ EN.c ze from over_mid (A := []) rfl rfl, fill_proof]
  rfl
theorem build_proof0 (w : World) : (Instr.build 39 #[]).run Tryd.prog w = .ok (.agg (PrC (.slice none 0 0) zp).toArray) w := run_build w _ _ _ (by rw [built_proof]; rfl)
theorem build_rproof0 (w : World) : (Instr.build 35 #[]).run Tryd.prog w = .ok (.agg (PrC (.slice none 0 0) zp).toArray) w := run_build w _ _ _ (by rw [built_rproof]; rfl)
theorem build_rproof (l : Bool) (k v : Hs) (w : World) : (Instr.build 35 #[(1, .bool l), (2, .agg (By k.1).toArray), (3, .agg (By v.1).toArray)]).run Tryd.prog w = .ok (.agg (PrC (.slice none 0 0) ([], l, k, v)).toArray) w := by
  refine run_build w _ _ _ ?_
  rw [built_rproof, PrCeq]
  exact fill_proof _ l k v
theorem built_step (parts : List (Nat × Value)) : Tryd.prog.built 70 parts = Instr.fill ((#[(0, 1), (1, 32)] : Array (Nat × Nat))[·]?) (SE.c zs).toArray parts := by kernel_rfl
theorem built_rstep (parts : List (Nat × Value)) : Tryd.prog.built 69 parts = Instr.fill ((#[(0, 1), (1, 32)] : Array (Nat × Nat))[·]?) (SE.c zs).toArray parts := by kernel_rfl
theorem fill_step (i : Int) (x : Hs) : Instr.fill ((#[(0, 1), (1, 32)] : Array (Nat × Nat))[·]?) (SE.c zs).toArray [(0, .int .i64 i), (1, .agg (By x.1).toArray)] = some (SE.c (i, x)).toArray := by
  rw [fill_one _ _ _ 0 0 _ rfl rfl (by rw [SE_len]; decide), SEeq, show over ([Value.int .i64 zs.1] ++ By zs.2.1) 0 [Value.int .i64 i] = [Value.int .i64 i] ++ By zh.1 from over_mid (A := []) rfl rfl,
    fill_row _ _ _ 1 1 _ (by rw [By_len]; rfl) (by simp [By_len]), over_end (n := 1) rfl (by rw [By_len, By_len])]
  rfl
theorem build_step (i : Int) (x : Hs) (w : World) : (Instr.build 70 #[(0, .int .i64 i), (1, .agg (By x.1).toArray)]).run Tryd.prog w = .ok (.agg (SE.c (i, x)).toArray) w := run_build w _ _ _ (by rw [built_step]; exact fill_step i x)
theorem build_rstep (i : Int) (x : Hs) (w : World) : (Instr.build 69 #[(0, .int .i64 i), (1, .agg (By x.1).toArray)]).run Tryd.prog w = .ok (.agg (SE.c (i, x)).toArray) w := run_build w _ _ _ (by rw [built_rstep]; exact fill_step i x)
theorem built_part (parts : List (Nat × Value)) : Tryd.prog.built 113 parts = Instr.fill ((#[(0, 32), (32, 65), (97, 1), (98, 2)] : Array (Nat × Nat))[·]?) (PaC zh ze 0 (.pointer none) (.pointer none)).toArray parts := by kernel_rfl
theorem build_leaf (r : Hs) (e : En) (w : World) : (Instr.build 113 #[(0, .agg (By r.1).toArray), (1, .agg (EN.c e).toArray)]).run Tryd.prog w = .ok (.agg (PaC r e 0 (.pointer none) (.pointer none)).toArray) w := by
  refine run_build w _ _ _ ?_
  rw [built_part]
  rw [fill_row _ _ _ 0 0 _ (by rw [By_len]; rfl) (by rw [By_len, PaC_len]; decide), PaC, show over (By zh.1 ++ (EN.c ze ++ [Value.int .i64 0, .pointer none, .pointer none])) 0 (By r.1) = By r.1 ++ (EN.c ze ++ [Value.int .i64 0, .pointer none, .pointer none]) from over_mid (A := []) rfl ((By_len zh).trans (By_len r).symm),
    fill_row _ _ _ 1 32 _ (by rw [EN_len]; rfl) (by simp [By_len, EN_len]), over_mid (By_len r) (by rw [EN_len, EN_len])]
  rfl
theorem build_part (r : Hs) (i : Int) (l q : Value) (w : World) : (Instr.build 113 #[(0, .agg (By r.1).toArray), (2, .int .i64 i), (3, .agg #[l, q])]).run Tryd.prog w = .ok (.agg (PaC r ze i l q).toArray) w := by
  refine run_build w _ _ _ ?_
  rw [built_part]
  rw [fill_row _ _ _ 0 0 _ (by rw [By_len]; rfl) (by rw [By_len, PaC_len]; decide), PaC, show over (By zh.1 ++ (EN.c ze ++ [Value.int .i64 0, .pointer none, .pointer none])) 0 (By r.1) = By r.1 ++ (EN.c ze ++ [Value.int .i64 0, .pointer none, .pointer none]) from over_mid (A := []) rfl ((By_len zh).trans (By_len r).symm),
    ← List.append_assoc, fill_one _ _ _ 2 97 _ rfl rfl (by simp [By_len, EN_len]), show over ((By r.1 ++ EN.c ze) ++ [Value.int .i64 0, .pointer none, .pointer none]) 97 [Value.int .i64 i] = (By r.1 ++ EN.c ze) ++ [Value.int .i64 i, .pointer none, .pointer none] from over_mid (A := By r.1 ++ EN.c ze) (X := [Value.int .i64 0]) (B := [.pointer none, .pointer none]) (by simp [By_len, EN_len]) rfl,
    show (Value.agg #[l, q]) = .agg [l, q].toArray from rfl, fill_row _ _ [l, q] 3 98 _ rfl (by simp [By_len, EN_len]),
    show over ((By r.1 ++ EN.c ze) ++ [Value.int .i64 i, .pointer none, .pointer none]) 98 [l, q] = (By r.1 ++ EN.c ze) ++ [Value.int .i64 i, l, q] from by
      have := over_end (A := (By r.1 ++ EN.c ze) ++ [Value.int .i64 i]) (X := [.pointer none, .pointer none]) (Y := [l, q]) (n := 98) (by simp [By_len, EN_len]) rfl
      simpa using this]
  unfold PaC
  rw [List.append_assoc]
  rfl
theorem build_sides (x y : Option Addr) (w : World) : (Instr.build 111 #[(0, .pointer x), (1, .pointer y)]).run Tryd.prog w = .ok (.agg #[.pointer x, .pointer y]) w := by kernel_rfl
theorem build_row1s (x : Sp) (w : World) : (Instr.buildSlice 37 1 #[(0, .agg (SE.c x).toArray)]).run Tryd.prog w = .ok (.slice (some ⟨w.heap.size, 0, none⟩) 1 1) (w.alloc (.cells (SE.c x).toArray 70 (0, 0))) := by
  obtain ⟨i, h1, h2, h3, h4⟩ := info_parts (show (Tryd.prog.info? 70).map (fun i => (i.zero, i.size, i.bytes)) = some (some (.agg (SE.c zs).toArray), SE.n, 40) by kernel_rfl)
  have h64 : i.size = 33 := h3
  refine run_buildSlice w 37 70 1 _ _ i (.agg (SE.c zs).toArray) Tryd.underlying37 h1 h2 (by rw [h64]; decide) (by rw [h64]; decide) ?_
  rw [h64]
  have hz : ((Array.range (1 * 33)).map ((Value.agg (SE.c zs).toArray).cells[· % (Value.agg (SE.c zs).toArray).cells.size]!)) = (SE.c zs).toArray := by kernel_rfl
  rw [hz, fill_row _ _ _ 0 0 _ (by rw [SE_len]) (by rw [SE_len, SE_len]; decide), over_all _ _ (by rw [SE_len, SE_len])]
  rfl
theorem build_row1r (x : Sp) (w : World) : (Instr.buildSlice 33 1 #[(0, .agg (SE.c x).toArray)]).run Tryd.prog w = .ok (.slice (some ⟨w.heap.size, 0, none⟩) 1 1) (w.alloc (.cells (SE.c x).toArray 69 (0, 0))) := by
  obtain ⟨i, h1, h2, h3, h4⟩ := info_parts (show (Tryd.prog.info? 69).map (fun i => (i.zero, i.size, i.bytes)) = some (some (.agg (SE.c zs).toArray), SE.n, 40) by kernel_rfl)
  have h64 : i.size = 33 := h3
  refine run_buildSlice w 33 69 1 _ _ i (.agg (SE.c zs).toArray) Tryd.underlying33 h1 h2 (by rw [h64]; decide) (by rw [h64]; decide) ?_
  rw [h64]
  have hz : ((Array.range (1 * 33)).map ((Value.agg (SE.c zs).toArray).cells[· % (Value.agg (SE.c zs).toArray).cells.size]!)) = (SE.c zs).toArray := by kernel_rfl
  rw [hz, fill_row _ _ _ 0 0 _ (by rw [SE_len]) (by rw [SE_len, SE_len]; decide), over_all _ _ (by rw [SE_len, SE_len])]
  rfl
theorem build_row1e (x : En) (w : World) : (Instr.buildSlice 105 1 #[(0, .agg (EN.c x).toArray)]).run Tryd.prog w = .ok (.slice (some ⟨w.heap.size, 0, none⟩) 1 1) (w.alloc (.cells (EN.c x).toArray 79 (0, 0))) := by
  obtain ⟨i, h1, h2, h3, h4⟩ := info_parts (show (Tryd.prog.info? 79).map (fun i => (i.zero, i.size, i.bytes)) = some (some (.agg (EN.c ze).toArray), EN.n, 65) by kernel_rfl)
  have h64 : i.size = 65 := h3
  refine run_buildSlice w 105 79 1 _ _ i (.agg (EN.c ze).toArray) Tryd.underlying105 h1 h2 (by rw [h64]; decide) (by rw [h64]; decide) ?_
  rw [h64]
  have hz : ((Array.range (1 * 65)).map ((Value.agg (EN.c ze).toArray).cells[· % (Value.agg (EN.c ze).toArray).cells.size]!)) = (EN.c ze).toArray := by kernel_rfl
  rw [hz, fill_row _ _ _ 0 0 _ (by rw [EN_len]) (by rw [EN_len, EN_len]; decide), over_all _ _ (by rw [EN_len, EN_len])]
  rfl
#print axioms build_part
end Go.Proofs.YtooffljimdklfaaDoor

/-
  Ends and steps held against each other; rows that grow.
-/
namespace Go.Proofs.YtooffljimdklfaaDoor
open Go.RowKit
theorem beq_eq_decide' (a b : Int) : (a == b) = decide (a = b) := by
  by_cases h : a = b <;> simp [h]
theorem eqE (x y : En) (W : World) : (Op.equalIn 10000 79 (.agg (EN.c x).toArray) (.agg (EN.c y).toArray)).run Tryd.prog W = .ok (decide (x = y)) W := by
  have u4 := Tryd.underlying4
  have c1 : ∀ s : En, ((EN.c s).drop 1).take 32 = By s.2.1.1 := fun s => by
    show ((By s.2.1.1 ++ By s.2.2.1)).take 32 = _; exact List.take_left' (By_len s.2.1)
  have c2 : ∀ s : En, ((EN.c s).drop 33).take 32 = By s.2.2.1 := fun s => by
    rw [ENeq2, List.drop_left' (by simp [By_len]), List.take_of_length_le (by rw [By_len]; exact Nat.le_refl _)]
  have p0 : ∀ s : En, (part 4 (EN.c s).toArray 0).run Tryd.prog W = .ok (.bool s.1) W := fun s => by kernel_rfl
  have q0 : ∀ a b : Bool, (Op.equalIn 9999 4 (.bool a) (.bool b)).run Tryd.prog W = .ok (a == b) W := fun a b => by cases a <;> cases b <;> kernel_rfl
  have e1 := eq24' x.2.1.1 y.2.1.1 x.2.1.2 y.2.1.2
  have e2 := eq24' x.2.2.1 y.2.2.1 x.2.2.2 y.2.2.2
  rw [run_equalIn_agg W 9999 79 _ _ (by kernel_rfl) (by kernel_rfl)]
  simp only [Program.fieldsOf, Tryd.underlying79]
  simp only [Op.eqFields, ne_eq, String.reduceEq, not_false_eq_true, if_true, Sem.run_bind, p0, q0, Result.andThen_ok]
  obtain ⟨xl, ⟨xk, hxk⟩, ⟨xv, hxv⟩⟩ := x
  obtain ⟨yl, ⟨yk, hyk⟩, ⟨yv, hyv⟩⟩ := y
  simp only at e1 e2 ⊢
  cases h0 : (xl == yl) with
  | false =>
    have : ¬ xl = yl := by simpa using h0
    simp [this]
  | true =>
    have h0' : xl = yl := by simpa using h0
    simp only [Bool.not_true, Bool.false_eq_true, if_false, Sem.run_bind, part24, c1, Result.andThen_ok, e1]
    cases h1 : (xk == yk) with
    | false =>
      have : ¬ xk = yk := by simpa using h1
      simp [this]
    | true =>
      have h1' : xk = yk := by simpa using h1
      simp only [Bool.not_true, Bool.false_eq_true, if_false, Sem.run_bind, part24, c2, Result.andThen_ok, e2]
      cases h2 : (xv == yv) with
      | false =>
        have : ¬ xv = yv := by simpa using h2
        simp [this]
      | true =>
        have h2' : xv = yv := by simpa using h2
        simp [h0', h1', h2']
theorem eqlE (x y : En) (W : World) : (binOp .eql 79 (.agg (EN.c x).toArray) (.agg (EN.c y).toArray)).run Tryd.prog W = .ok (.bool (decide (x = y))) W := by
  rw [run_eql_struct, eqE]
  rfl
theorem neqE (x y : En) (W : World) : (binOp .neq 79 (.agg (EN.c x).toArray) (.agg (EN.c y).toArray)).run Tryd.prog W = .ok (.bool (!decide (x = y))) W := by
  rw [run_neq_struct, eqE]
  rfl
theorem eqS (x y : Sp) (W : World) : (Op.equalIn 10000 69 (.agg (SE.c x).toArray) (.agg (SE.c y).toArray)).run Tryd.prog W = .ok (decide (x = y)) W := by
  have u3 := Tryd.underlying3
  have c1 : ∀ s : Sp, ((SE.c s).drop 1).take 32 = By s.2.1 := fun s => by
    show (By s.2.1).take 32 = _; rw [List.take_of_length_le (by rw [By_len]; exact Nat.le_refl _)]
  have p0 : ∀ s : Sp, (part 3 (SE.c s).toArray 0).run Tryd.prog W = .ok (.int .i64 s.1) W := fun s => by kernel_rfl
  have q0 : ∀ a b : Int, (Op.equalIn 9999 3 (.int .i64 a) (.int .i64 b)).run Tryd.prog W = .ok (decide (a = b)) W := fun a b => by
    rw [show (9999 : Nat) = 9998 + 1 from rfl]; unfold Op.equalIn; simp [go_sem]; exact beq_eq_decide' a b
  have e1 := eq24' x.2.1 y.2.1 x.2.2 y.2.2
  rw [run_equalIn_agg W 9999 69 _ _ (by kernel_rfl) (by kernel_rfl)]
  simp only [Program.fieldsOf, Tryd.underlying69]
  simp only [Op.eqFields, ne_eq, String.reduceEq, not_false_eq_true, if_true, Sem.run_bind, p0, q0, Result.andThen_ok]
  obtain ⟨xb, ⟨xk, hxk⟩⟩ := x
  obtain ⟨yb, ⟨yk, hyk⟩⟩ := y
  simp only at e1 ⊢
  by_cases h0 : xb = yb
  · simp only [h0, decide_true, Bool.not_true, Bool.false_eq_true, if_false, Sem.run_bind, part24, c1, Result.andThen_ok, e1]
    cases h1 : (xk == yk) with
    | false =>
      have : ¬ xk = yk := by simpa using h1
      simp [this]
    | true =>
      have h1' : xk = yk := by simpa using h1
      simp [h1']
  · simp [h0]
theorem neqS (x y : Sp) (W : World) : (binOp .neq 69 (.agg (SE.c x).toArray) (.agg (SE.c y).toArray)).run Tryd.prog W = .ok (.bool (!decide (x = y))) W := by
  rw [run_neq_struct, eqS]
  rfl
/-- append(own, row...), whatever stands in the row. -/
theorem run_append_E {α : Type} {E : Enc α} {P : Program} {t e : TypeId} {bytes : Nat} (ht : P.underlying t = some (.slice e)) (hi : ∃ i z, P.info? e = some i ∧ i.zero = some z ∧ i.size = E.n ∧ i.bytes = bytes ∧ z.cells.size = E.n) (hby : bytes ≤ 1000)
    (w : World) (base : Nat) (ty : TypeId) (v : Value) (L : List α) (hown : OwnG E w base e v L) (xv : Value) (M : List α) (hr : RdG E w xv M) (hlen : L.length + M.length ≤ 10000000) (hbase : base ≤ w.heap.size) :
    ∃ v' w', (Builtin.append_ #[t, t] ty #[v, xv]).run P w = .ok v' w' ∧ OwnG E w' base e v' (L ++ M) ∧ w.grownBy w' v.ownBlock ∧ ∀ b, v'.ownBlock = some b → v.ownBlock = some b ∨ b = w.heap.size := by
  obtain ⟨i, z, h1, h2, h3, h4, h5⟩ := hi
  obtain ⟨v', w', g1, g2, g3, g4⟩ := run_append_at (P := P) w base t t ty e i z E.n bytes ht h1 h2 h3 h4 h5 v L.length (E.cs L) hown xv M.length (E.cs M) (hr.src t e ht) (by unfold maxLen; omega) (by
    have := Nat.mul_le_mul hlen hby
    omega) hbase
  refine ⟨v', w', g1, ?_, g3, g4⟩
  unfold OwnG
  rw [List.length_append, Enc.cs_append]
  exact g2
theorem infoS9 : ∃ i z, Tryd.prog.info? 70 = some i ∧ i.zero = some z ∧ i.size = SE.n ∧ i.bytes = 40 ∧ z.cells.size = SE.n := by
  obtain ⟨i, h1, h2, h3, h4⟩ := info_parts (show (Tryd.prog.info? 70).map (fun i => (i.zero, i.size, i.bytes)) = some (some (.agg (SE.c zs).toArray), SE.n, 40) by kernel_rfl)
  exact ⟨i, _, h1, h2, h3, h4, by kernel_rfl⟩
theorem infoR9 : ∃ i z, Tryd.prog.info? 69 = some i ∧ i.zero = some z ∧ i.size = SE.n ∧ i.bytes = 40 ∧ z.cells.size = SE.n := by
  obtain ⟨i, h1, h2, h3, h4⟩ := info_parts (show (Tryd.prog.info? 69).map (fun i => (i.zero, i.size, i.bytes)) = some (some (.agg (SE.c zs).toArray), SE.n, 40) by kernel_rfl)
  exact ⟨i, _, h1, h2, h3, h4, by kernel_rfl⟩
theorem infoE9 : ∃ i z, Tryd.prog.info? 79 = some i ∧ i.zero = some z ∧ i.size = EN.n ∧ i.bytes = 65 ∧ z.cells.size = EN.n := by
  obtain ⟨i, h1, h2, h3, h4⟩ := info_parts (show (Tryd.prog.info? 79).map (fun i => (i.zero, i.size, i.bytes)) = some (some (.agg (EN.c ze).toArray), EN.n, 65) by kernel_rfl)
  exact ⟨i, _, h1, h2, h3, h4, by kernel_rfl⟩
theorem wp_append_E {α : Type} {E : Enc α} {P : Program} {t e : TypeId} {bytes : Nat} (ht : P.underlying t = some (.slice e)) (hi : ∃ i z, P.info? e = some i ∧ i.zero = some z ∧ i.size = E.n ∧ i.bytes = bytes ∧ z.cells.size = E.n) (hby : bytes ≤ 1000)
    {o : Oper} {a : Act} {w : World} {K : Act → World → Prop} {Q : Exit → Act → World → Prop} (s x : Operand) (ho : o.op = .call { callee := .builtin .append, args := #[s, x], argTypes := #[t, t] }) (base : Nat)
    (v : Value) (L : List α) (hv : a.eval s = v) (hown : OwnG E w base e v L) (xv : Value) (M : List α) (hx : a.eval x = xv) (hr : RdG E w xv M) (hlen : L.length + M.length ≤ 10000000) (hbase : base ≤ w.heap.size)
    (h : ∀ v' w', OwnG E w' base e v' (L ++ M) → w.grownBy w' v.ownBlock → (∀ b, v'.ownBlock = some b → v.ownBlock = some b ∨ b = w.heap.size) → K (a.put o.dst v') w') : o.wp P a w K Q := by
  obtain ⟨v', w', g1, g2, g3, g4⟩ := run_append_E ht hi hby w base o.type v L hown xv M hr hlen hbase
  exact wp_append10 s x t t ho hv hx g1 (h v' w' g2 g3 g4)
theorem wpList_append_E {α : Type} {E : Enc α} {P : Program} {t e : TypeId} {bytes : Nat} (ht : P.underlying t = some (.slice e)) (hi : ∃ i z, P.info? e = some i ∧ i.zero = some z ∧ i.size = E.n ∧ i.bytes = bytes ∧ z.cells.size = E.n) (hby : bytes ≤ 1000)
    {ops : Array Oper} {rest : List Oper} {o : Oper} {a : Act} {w : World} {Q : Exit → Act → World → Prop} (hgd : o.guard = none) (s x : Operand) (ho : o.op = .call { callee := .builtin .append, args := #[s, x], argTypes := #[t, t] }) (base : Nat)
    (v : Value) (L : List α) (hv : a.eval s = v) (hown : OwnG E w base e v L) (xv : Value) (M : List α) (hx : a.eval x = xv) (hr : RdG E w xv M) (hlen : L.length + M.length ≤ 10000000) (hbase : base ≤ w.heap.size)
    (h : ∀ v' w', OwnG E w' base e v' (L ++ M) → w.grownBy w' v.ownBlock → (∀ b, v'.ownBlock = some b → v.ownBlock = some b ∨ b = w.heap.size) → wpList P ops Q rest (a.put o.dst v') w') : wpList P ops Q (o :: rest) a w :=
  wpList_plain hgd fun _ hK => wp_append_E ht hi hby s x ho base v L hv hown xv M hx hr hlen hbase fun v' w' g1 g2 g3 => hK _ _ (h v' w' g1 g2 g3)
theorem wpList_run {P : Program} {ops : Array Oper} {rest : List Oper} {o : Oper} {a : Act} {w w1 : World} {Q : Exit → Act → World → Prop} (hgd : o.guard = none) (v : Value)
    (hrun : (execOp a.eval o).run P w = .ok (.value v) w1) (h : wpList P ops Q rest (a.put o.dst v) w1) : wpList P ops Q (o :: rest) a w := by
  refine wpList_plain hgd fun K hK => ?_
  unfold Oper.wp
  rw [hrun]
  exact hK _ _ h
theorem wp_run {P : Program} {o : Oper} {a : Act} {w w1 : World} {K : Act → World → Prop} {Q : Exit → Act → World → Prop} (v : Value)
    (hrun : (execOp a.eval o).run P w = .ok (.value v) w1) (h : K (a.put o.dst v) w1) : o.wp P a w K Q := by
  unfold Oper.wp
  rw [hrun]
  exact h
#print axioms eqE
#print axioms eqS
end Go.Proofs.YtooffljimdklfaaDoor

/-
  The end of a proof, the root of an end: what the calls do.
-/
namespace Go.Proofs.YtooffljimdklfaaDoor
open Go.RowKit
theorem box1 {w w1 : World} {N : Nat} (HN : Hid (w.heap.size = N)) {A : List Value} {T : TypeId} (hw : w1 = w.alloc (.cells A.toArray T (0, 0))) :
    Blk w1 N T A ∧ Below N w w1 ∧ w1.heap.size = N + 1 := by
  subst hw
  have h := HN.out
  exact ⟨by rw [← h]; exact Blk.new w T A, (Below.refl _ _).alloc (by omega) _, by simp [h]⟩
theorem box2 {w w1 : World} {N : Nat} (HN : Hid (w.heap.size = N)) {A B : List Value} {T U : TypeId} (hw : w1 = (w.alloc (.cells A.toArray T (0, 0))).alloc (.cells B.toArray U (0, 0))) :
    Blk w1 N T A ∧ Blk w1 (N + 1) U B ∧ Below N w w1 ∧ w1.heap.size = N + 2 := by
  obtain ⟨h1, h2, h3⟩ := box1 HN (w1 := w.alloc (.cells A.toArray T (0, 0))) rfl
  obtain ⟨k1, k2, k3⟩ := box1 (w1 := w1) (show Hid (_ = N + 1) from h3) hw
  exact ⟨h1.kept (by rw [h3]; exact k2), k1, h2.trans (k2.mono (by omega)), k3⟩
theorem box3 {w w1 : World} {N : Nat} (HN : Hid (w.heap.size = N)) {A B C : List Value} {T U V : TypeId} (hw : w1 = ((w.alloc (.cells A.toArray T (0, 0))).alloc (.cells B.toArray U (0, 0))).alloc (.cells C.toArray V (0, 0))) :
    Blk w1 N T A ∧ Blk w1 (N + 1) U B ∧ Blk w1 (N + 2) V C ∧ Below N w w1 ∧ w1.heap.size = N + 3 := by
  obtain ⟨h1, h1', h2, h3⟩ := box2 HN (w1 := (w.alloc (.cells A.toArray T (0, 0))).alloc (.cells B.toArray U (0, 0))) rfl
  obtain ⟨k1, k2, k3⟩ := box1 (w1 := w1) (show Hid (_ = N + 2) from h3) hw
  exact ⟨h1.kept (by rw [h3]; exact k2), h1'.kept (by rw [h3]; exact k2), k1, h2.trans (k2.mono (by omega)), k3⟩
theorem box4 {w w1 : World} {N : Nat} (HN : Hid (w.heap.size = N)) {A B C D : List Value} {T U V X : TypeId} (hw : w1 = (((w.alloc (.cells A.toArray T (0, 0))).alloc (.cells B.toArray U (0, 0))).alloc (.cells C.toArray V (0, 0))).alloc (.cells D.toArray X (0, 0))) :
    Blk w1 N T A ∧ Blk w1 (N + 1) U B ∧ Blk w1 (N + 2) V C ∧ Blk w1 (N + 3) X D ∧ Below N w w1 ∧ w1.heap.size = N + 4 := by
  obtain ⟨h1, h1', h1'', h2, h3⟩ := box3 HN (w1 := ((w.alloc (.cells A.toArray T (0, 0))).alloc (.cells B.toArray U (0, 0))).alloc (.cells C.toArray V (0, 0))) rfl
  obtain ⟨k1, k2, k3⟩ := box1 (w1 := w1) (show Hid (_ = N + 3) from h3) hw
  exact ⟨h1.kept (by rw [h3]; exact k2), h1'.kept (by rw [h3]; exact k2), h1''.kept (by rw [h3]; exact k2), k1, h2.trans (k2.mono (by omega)), k3⟩
set_option maxHeartbeats 2000000 in
set_option maxRecDepth 100000 in
theorem bend_any (v : Value) (p : Pr) (w : World) : Calls Tryd.prog 34 #[.agg (PrC v p).toArray] w fun e w' => e = .returned (.agg (EN.c p.2).toArray) ∧ Below w.heap.size w w' := by
  obtain ⟨N, HN⟩ : ∃ N, Hid (w.heap.size = N) := ⟨_, rfl⟩
  rw [HN.out]
  go_enter Tryd.func34, Tryd.ntmps34
  go_upto_region 1 with fail
  obtain ⟨w1, hw1⟩ : ∃ z, z = (w.alloc (.cells (PrC v p).toArray 39 (0, 0))).alloc (.cells (EN.c ze).toArray 79 (0, 0)) := ⟨_, rfl⟩
  change Code.wp _ _ _ _ ((w.alloc (.cells (PrC v p).toArray 39 (0, 0))).alloc (.cells (EN.c ze).toArray 79 (0, 0)))
  rw [← hw1, HN.out]
  obtain ⟨b0, b1, ln, -⟩ := box2 HN hw1
  clear hw1
  have c1 := PrC.leaf b0
  have rk := PrC.key b0
  have rv := PrC.value b0
  have B1 := hide b1
  have L1 := hide ln
  clear b0 b1 ln
  have hbe := build_end p.2.1 p.2.2.1 p.2.2.2
  go_wp2_with (first
    | (refine wpList_load_mid rfl 24 _ rfl N 2 rfl (By p.2.2.1.1) _ rk Tryd.underlying24 rfl (Tryd.sizeH _) ?_)
    | (refine wpList_load_mid rfl 24 _ rfl N 34 rfl (By p.2.2.2.1) _ rv Tryd.underlying24 rfl (Tryd.sizeH _) ?_)
    | (refine wpList_build rfl 79 _ rfl (.agg (EN.c p.2).toArray) (by simp only [execOp, List.map_toArray, List.map_cons, List.map_nil, Sem.run_bind, Sem.run_pure]; exact congrArg (fun r => Result.andThen r _) (hbe _)) ?_)
    | (refine wpList_store_blk rfl 79 _ _ rfl (N + 1) (EN.c ze) (EN.c p.2) 79 rfl rfl B1.out (by rw [EN_len, EN_len]) (Tryd.sizeE _) (EN.one _) ?_; intro w7 hb7 hu7)
    | fail)
  refine bodyPost_ret (results_cell_row rfl _ _ (N + 1) 79 _ (0, 0) _ rfl hb7 Tryd.underlying79 rfl (by simpa using Tryd.sizeE p.2)) rfl ⟨rfl, ?_⟩
  exact L1.out.trans (hu7.below (by omega) (by have := B1.out.lt; omega))
/-- An operation that reads, where what is kept of the world is told. -/
theorem wp_loadC {P : Program} {o : Oper} {a : Act} {w : World} {C : World → Prop} {Q : Exit → Act → World → Prop} (ty : TypeId) (x : Operand) (ho : o.op = .load ty x) (b off : Nat) (hx : a.eval x = .pointer (some ⟨b, off, none⟩))
    (cs : List Value) (d : TypeDesc) (hc : w.rangeAt b off cs) (hu : P.underlying ty = some d) (hd : d.isRow = true) (hi : (P.info? ty).map (·.size) = some cs.length) (hC : C w) : o.wp P a w (fun a' w' => a' = a.put o.dst (.agg cs.toArray) ∧ C w') Q :=
  wp_same _ (by simp only [execOp, ho, hx, Sem.run_bind, Sem.run_pure, Result.andThen_ok, run_loadAt_mid w b off ty cs d hc hu hd hi]) hC
theorem By2_range {w : World} {b : Nat} {T : TypeId} {x y : Hs} (h : Blk w b T (By x.1 ++ By y.1)) : w.rangeAt b 0 (By x.1) ∧ w.rangeAt b 32 (By y.1) := by
  refine ⟨h.range 0 _ fun j u hj => ?_, h.range 32 _ fun j u hj => ?_⟩
  · have hl := (List.getElem?_eq_some_iff.1 hj).1
    rw [Nat.zero_add, List.getElem?_append_left hl]
    exact hj
  · rw [List.getElem?_append_right (by rw [By_len]; omega), By_len, Nat.add_sub_cancel_left]
    exact hj
/-- The root of an end. -/
def erP (x : En) : Hs := if x = ze then ntH else itH x.2.1 x.2.2
set_option maxHeartbeats 2000000 in
set_option maxRecDepth 100000 in
theorem eroot_any (x : En) (w : World) (hT : Tabs w) : Calls Tryd.prog 35 #[.agg (EN.c x).toArray] w fun e w' => e = .returned (HV (erP x)) ∧ Below w.heap.size w w' := by
  obtain ⟨N, HN⟩ : ∃ N, Hid (w.heap.size = N) := ⟨_, rfl⟩
  have h2 : 2 ≤ N := by rw [← HN.out]; exact hT.size
  have HT := hide hT
  clear hT
  rw [HN.out]
  go_enter Tryd.func35, Tryd.ntmps35
  go_upto_region 1 with fail
  obtain ⟨w1, hw1⟩ : ∃ z, z = (w.alloc (.cells (EN.c x).toArray 79 (0, 0))).alloc (.cells (By zh.1).toArray 24 (0, 0)) := ⟨_, rfl⟩
  change Code.wp _ _ _ _ ((w.alloc (.cells (EN.c x).toArray 79 (0, 0))).alloc (.cells (By zh.1).toArray 24 (0, 0)))
  rw [← hw1, HN.out]
  obtain ⟨b0, b1, ln, sz1⟩ := box2 HN hw1
  clear hw1
  have r0 := b0.range0
  have rk := ENkey b0.range0
  have rv := ENval b0.range0
  have B1 := hide b1
  have L1 := hide ln
  have T1 := hide (HT.out.kept (L1.out.mono h2))
  clear b0 b1 ln
  have hbe := build_end0
  have heq := eqE x ze
  by_cases hx : x = ze
  · rw [decide_eq_true hx] at heq
    have HE : Hid (erP x = ntH) := (show _ = _ from if_pos hx)
    clear hx
    go_wp2_with (first
      | (refine wpList_load_mid rfl 79 _ rfl N 0 rfl (EN.c x) _ r0 Tryd.underlying79 rfl (Tryd.sizeE _) ?_)
      | (refine wpList_build rfl 79 _ rfl (.agg (EN.c ze).toArray) (by simp only [execOp, List.map_toArray, List.map_nil, Sem.run_bind, Sem.run_pure]; exact congrArg (fun r => Result.andThen r _) (hbe _)) ?_)
      | fail)
    refine (hnothing_any w1 T1.out).mono ?_
    rintro e w2 ⟨rfl, hb2⟩
    have B2 := hide (B1.out.kept hb2)
    have L2 : Hid (Below N w w2) := (show _ from L1.out.trans (hb2.mono (by have := B1.out.lt; omega)))
    clear hb2
    go_wp2_with (first
      | (refine wpList_store_blk rfl 24 _ _ rfl (N + 1) (By zh.1) (By ntH.1) 24 rfl rfl B2.out (by rw [By_len, By_len]) (Tryd.sizeH ntH) (By_one _) ?_; intro w7 hb7 hu7)
      | fail)
    refine bodyPost_ret (ret_hash rfl _ _ (N + 1) ntH rfl hb7) rfl ⟨by rw [HE.out], ?_⟩
    exact L2.out.trans (hu7.below (by omega) (by have := B2.out.lt; omega))
  · rw [decide_eq_false hx] at heq
    obtain ⟨z, HE⟩ : ∃ z, Hid (erP x = z) := ⟨_, rfl⟩
    have HZ : Hid (itH x.2.1 x.2.2 = z) := (show _ = _ by rw [← HE.out]; exact (if_neg hx).symm)
    clear hx
    go_wp2_with (first
      | (refine wpList_load_mid rfl 79 _ rfl N 0 rfl (EN.c x) _ r0 Tryd.underlying79 rfl (Tryd.sizeE _) ?_)
      | (refine wpList_build rfl 79 _ rfl (.agg (EN.c ze).toArray) (by simp only [execOp, List.map_toArray, List.map_nil, Sem.run_bind, Sem.run_pure]; exact congrArg (fun r => Result.andThen r _) (hbe _)) ?_)
      | (refine wpList_load_mid rfl 24 _ rfl N 1 rfl (By x.2.1.1) _ rk Tryd.underlying24 rfl (Tryd.sizeH _) ?_)
      | (refine wpList_load_mid rfl 24 _ rfl N 33 rfl (By x.2.2.1) _ rv Tryd.underlying24 rfl (Tryd.sizeH _) ?_)
      | fail)
    refine (hitem_any x.2.1 x.2.2 w1 T1.out).mono ?_
    rintro e w2 ⟨rfl, hb2⟩
    have B2 := hide (B1.out.kept hb2)
    have L2 : Hid (Below N w w2) := (show _ from L1.out.trans (hb2.mono (by have := B1.out.lt; omega)))
    clear hb2
    rw [HZ.out]
    go_wp2_with (first
      | (refine wpList_store_blk rfl 24 _ _ rfl (N + 1) (By zh.1) (By z.1) 24 rfl rfl B2.out (by rw [By_len, By_len]) (Tryd.sizeH z) (By_one _) ?_; intro w7 hb7 hu7)
      | fail)
    refine bodyPost_ret (ret_hash rfl _ _ (N + 1) z rfl hb7) rfl ⟨by rw [HE.out], ?_⟩
    exact L2.out.trans (hu7.below (by omega) (by have := B2.out.lt; omega))
set_option maxHeartbeats 4000000 in
set_option maxRecDepth 100000 in
theorem join0_any (i : Nat) (S own : Hs) (w : World) (hT : Tabs w) : Calls Tryd.prog 37 #[.agg (SE.c ((i : Int), S)).toArray, .int .i64 0, HV own] w fun e w' => e = .returned (HV (fkH i own S)) ∧ Below w.heap.size w w' := by
  obtain ⟨N, HN⟩ : ∃ N, Hid (w.heap.size = N) := ⟨_, rfl⟩
  have h2 : 2 ≤ N := by rw [← HN.out]; exact hT.size
  have HT := hide hT
  clear hT
  rw [HN.out]
  unfold HV
  go_enter Tryd.func37, Tryd.ntmps37
  go_upto_region 2 with fail
  obtain ⟨w1, hw1⟩ : ∃ z, z = (((w.alloc (.cells (SE.c ((i : Int), S)).toArray 70 (0, 0))).alloc (.cells (By own.1).toArray 24 (0, 0))).alloc (.cells (By zh.1).toArray 24 (0, 0))).alloc (.cells (By zh.1 ++ By zh.1).toArray 117 (0, 0)) := ⟨_, rfl⟩
  change Code.wp _ _ _ _ ((((w.alloc (.cells (SE.c ((i : Int), S)).toArray 70 (0, 0))).alloc (.cells (By own.1).toArray 24 (0, 0))).alloc (.cells (By zh.1).toArray 24 (0, 0))).alloc (.cells (By zh.1 ++ By zh.1).toArray 117 (0, 0)))
  rw [← hw1, HN.out]
  obtain ⟨b0, b1, b2, b3, ln, sz1⟩ := box4 HN hw1
  clear hw1
  obtain ⟨D, HD⟩ : ∃ D, Hid (N + 3 = D) := ⟨_, rfl⟩
  have hD : N + 3 ≤ D := Nat.le_of_eq HD.out
  rw [HD.out] at b3
  have B0 := hide b0
  have B1 := hide b1
  have B2 := hide b2
  have B3 := hide b3
  have L1 := hide ln
  have Z1 := hide sz1
  clear b0 b1 b2 b3 ln sz1
  rw [show N + 1 + 1 + 1 = D from HD.out]
  have hDN : Hid (D = N + 3) := HD.out.symm
  refine pivots_by (jl_wp Tryd.mixed) (fun i_ => match i_ with | 0 | 1 => .int .i64 0 | 2 => .int .i64 1 | 3 => HV own | 4 => .pointer (some ⟨N, 1, none⟩) | 5 => HV S | 6 => .pointer (some ⟨D, 0, none⟩) | 7 => undef | _ => undef) (fun b_ w' => Blk w' D 117 (By ((if b_ = 1 then own else zh)).1 ++ By (zh).1) ∧ Below N w w' ∧ Blk w' N 70 (SE.c ((i : Int), S)) ∧ Blk w' (N + 1) 24 (By own.1) ∧ Blk w' (N + 2) 24 (By zh.1)) [7] 23 rfl (by decide +kernel) 8 (by decide) (by decide) (by decide) (by decide +kernel) (by decide +kernel) ?_ ?_ ?_
  · intro w' hh hg
    exact ⟨by simpa using B3.out.kept hg, L1.out.trans (hg.mono (by rw [Z1.out]; omega)), B0.out.kept hg, B1.out.kept hg, B2.out.kept hg⟩
  · refine AllFrom.cons ⟨rfl, ?_, ?_⟩ (AllFrom.cons ⟨rfl, ?_, ?_⟩ (AllFrom.cons ⟨rfl, ?_, ?_⟩ (AllFrom.cons ⟨rfl, ?_, ?_⟩ (AllFrom.cons ⟨rfl, ?_, ?_⟩ (AllFrom.cons ⟨rfl, ?_, ?_⟩ (AllFrom.cons ⟨rfl, ?_, ?_⟩ (AllFrom.cons ⟨rfl, ?_, ?_⟩ AllFrom.nil)))))))
    · intro _ a' b' w' hC hk hd Q
      have e1 : a'.eval (.tmp 1) = .int .i64 0 := hk.at 1 (by decide +kernel)
      exact wp_same _ (by simp only [execOp, e1]; rfl) hC
    · intro j hj; exact absurd hj (pv_no (by decide) _)
    · intro _ a' b' w' hC hk hd Q
      have e1 : a'.eval (.tmp 1) = .int .i64 0 := hk.at 1 (by decide +kernel)
      exact wp_same _ (by simp only [execOp, e1]; rfl) hC
    · intro j hj; exact absurd hj (pv_no (by decide) _)
    · intro _ a' b' w' hC hk hd Q
      have e9 : a'.eval (.tmp 9) = .int .i64 0 := hd 1 9 (by decide +kernel)
      exact wp_same _ (by clear hd hk hC; simp only [execOp, e9]; go_simp; first | done | rfl | decide) hC
    · intro j hj; exact absurd hj (pv_no (by decide) _)
    · intro _ a' b' w' hC hk hd Q
      have e5 : a'.eval (.tmp 5) = .pointer (some ⟨N + 1, 0, none⟩) := hk.at 5 (by decide +kernel)
      exact wp_loadC 24 _ rfl _ _ e5 (By own.1) _ hC.2.2.2.1.range0 Tryd.underlying24 rfl (Tryd.sizeH _) hC
    · intro j hj; exact absurd hj (pv_no (by decide) _)
    · intro _ a' b' w' hC hk hd Q
      have e3 : a'.eval (.tmp 3) = .pointer (some ⟨N, 0, none⟩) := hk.at 3 (by decide +kernel)
      exact wp_same _ (by clear hd hk hC; simp only [execOp, e3]; go_simp) hC
    · intro j hj; exact absurd hj (pv_no (by decide) _)
    · intro _ a' b' w' hC hk hd Q
      have e12 : a'.eval (.tmp 12) = .pointer (some ⟨N, 1, none⟩) := hd 4 12 (by decide +kernel)
      exact wp_loadC 24 _ rfl _ _ e12 (By S.1) _ (SEside hC.2.2.1.range0) Tryd.underlying24 rfl (Tryd.sizeH _) hC
    · intro j hj; exact absurd hj (pv_no (by decide) _)
    · intro _ a' b' w' hC hk hd Q
      have e7 : a'.eval (.tmp 7) = .pointer (some ⟨D, 0, none⟩) := hk.at 7 (by decide +kernel)
      have e8 : a'.eval (.tmp 8) = .int .i64 0 := hd 0 8 (by decide +kernel)
      exact wp_same _ (by clear hd hk hC; simp only [execOp, e7, e8]; go_simp) hC
    · intro j hj; exact absurd hj (pv_no (by decide) _)
    · intro h; exact absurd (by decide) h
    · intro j hj
      obtain rfl : j = 0 := pv_at (by decide) rfl hj
      refine ⟨rfl, fun a' w' hC hk hd Q => ?_⟩
      have e11 : a'.eval (.tmp 11) = HV own := hd 3 11 (by decide +kernel)
      have e14 : a'.eval (.tmp 14) = .pointer (some ⟨D, 0, none⟩) := hd 6 14 (by decide +kernel)
      obtain ⟨hC1, hC2, hC3, hC4, hC5⟩ := hC
      simp only [Nat.zero_ne_one, if_false] at hC1
      refine wp_store_mid 24 _ _ rfl D 0 (By own.1).toArray e14 e11 (by rw [List.size_toArray, By_len]; exact hC1.there 0 32 (by simp [By_len])) (by simpa using Tryd.sizeH own) (all_one (By_one _)) ?_
      have hb4 := hC1.over (By own.1) 0 (by simp [By_len])
      have hu4 := But.setCells D (By own.1) 0 w'
      rw [over_left] at hb4
      exact ⟨rfl, by simpa using hb4, hC2.trans (hu4.below (by omega) (by have := hC3.lt; omega)), hC3.but hu4 (by omega), hC4.but hu4 (by omega), hC5.but hu4 (by omega)⟩
  · intro a' w' hsz hdf hk hall hC
    have e8 : a'.eval (.tmp 8) = .int .i64 0 := hall 0 _ 8 (by decide) rfl rfl
    have e9 : a'.eval (.tmp 9) = .int .i64 0 := hall 1 _ 9 (by decide) rfl rfl
    have e10 : a'.eval (.tmp 10) = .int .i64 1 := hall 2 _ 10 (by decide) rfl rfl
    have e11 : a'.eval (.tmp 11) = HV own := hall 3 _ 11 (by decide) rfl rfl
    have e12 : a'.eval (.tmp 12) = .pointer (some ⟨N, 1, none⟩) := hall 4 _ 12 (by decide) rfl rfl
    have e13 : a'.eval (.tmp 13) = HV S := hall 5 _ 13 (by decide) rfl rfl
    have e14 : a'.eval (.tmp 14) = .pointer (some ⟨D, 0, none⟩) := hall 6 _ 14 (by decide) rfl rfl
    obtain ⟨z15, e15⟩ : ∃ v, a'.eval (.tmp 15) = v := ⟨_, rfl⟩
    obtain ⟨hC1, hC2, hC3, hC4, hC5⟩ := hC
    simp only [List.length_cons, List.length_nil, Nat.zero_add, if_true] at hC1
    have e7 : a'.eval (.tmp 7) = .pointer (some ⟨D, 0, none⟩) := hk.all.at 7 (by decide +kernel)
    refine ⟨rfl, ?_⟩
    refine Oper.wp_mono ?_ (wp_same (C := fun x => x = w') (.pointer (some ⟨D, 32, none⟩)) (by simp only [execOp, e7, e10]; go_simp) rfl)
    rintro a2 w2 ⟨rfl, rfl⟩
    refine ⟨_, rfl, rfl, ?_⟩
    refine wp_store_mid 24 (.tmp 15) (.tmp 13) rfl D 32 (By S.1).toArray (by rw [eval_put_same (by rw [hsz]; simp)]) (by rw [eval_put_other (by decide)]; exact e13) (by rw [List.size_toArray, By_len]; exact hC1.there 32 32 (by simp [By_len])) (by simpa using Tryd.sizeH S) (all_one (By_one _)) ?_
    have hb5 := hC1.over (By S.1) 32 (by simp [By_len])
    have hu5 := But.setCells D (By S.1) 32 w2
    rw [over_right] at hb5
    simp only
    generalize w2.setCells D 32 (By S.1) = w5 at hb5 hu5 ⊢
    refine ⟨_, rfl, ?_⟩
    have rx : w5.rangeAt D 0 (By own.1) := (By2_range hb5).1
    have ry : w5.rangeAt D 32 (By S.1) := (By2_range hb5).2
    have cb : w5.cell? ⟨N, 0, none⟩ = some (.int .i64 (i : Int)) := SEbit (hC3.but hu5 (by omega)).range0
    have B5 := hide (hC5.but hu5 (by omega))
    have L5 : Hid (Below N w w5) := hC2.trans (hu5.below (by omega) (by have := hC3.lt; omega))
    clear hb5 hu5 hC1 hC2 hC3 hC4 hC5
    have ha := act_puts 23 rfl hsz hdf hk.all [8, 9, 10, 11, 12, 13, 14, 15] (by decide +kernel)
    simp only [puts, List.foldl_cons, List.foldl_nil, e8, e9, e10, e11, e12, e13, e14, e15] at ha
    simp only [Act.put, List.setIfInBounds_toArray, List.set_cons_succ, List.set_cons_zero] at ha
    show Exit.then _ _ Exit.normal { tmps := (a'.tmps.setIfInBounds 15 _), defers := a'.defers } w5
    subst ha
    clear hall hk hsz hdf e7 e8 e9 e10 e11 e12 e13 e14 e15
    have T5 := hide (HT.out.kept (L5.out.mono h2))
    go_wp2_with (first
      | (refine wpList_load_mid rfl 24 _ rfl D 0 rfl (By own.1) _ rx Tryd.underlying24 rfl (Tryd.sizeH _) ?_)
      | (refine wpList_load_mid rfl 24 _ rfl D 32 rfl (By S.1) _ ry Tryd.underlying24 rfl (Tryd.sizeH _) ?_)
      | fail)
    refine (hfork_any i own S w5 T5.out).mono ?_
    rintro e w6 ⟨rfl, hb6⟩
    have B6 := hide (B5.out.kept hb6)
    have L6 : Hid (Below N w w6) := L5.out.trans (hb6.mono (by have := B5.out.lt; omega))
    clear hb6
    obtain ⟨z, HZ⟩ : ∃ z, Hid (fkH i own S = z) := ⟨_, rfl⟩
    rw [HZ.out]
    go_wp2_with (first
      | (refine wpList_store_blk rfl 24 _ _ rfl (N + 2) (By zh.1) (By z.1) 24 rfl rfl B6.out (by rw [By_len, By_len]) (Tryd.sizeH z) (By_one _) ?_; intro w7 hb7 hu7)
      | fail)
    refine bodyPost_ret (ret_hash rfl _ _ (N + 2) z rfl hb7) rfl ⟨by rw [HZ.out]; rfl, ?_⟩
    exact L6.out.trans (hu7.below (by omega) (by have := B6.out.lt; omega))
set_option maxHeartbeats 4000000 in
set_option maxRecDepth 100000 in
theorem join1_any (i : Nat) (S own : Hs) (w : World) (hT : Tabs w) : Calls Tryd.prog 37 #[.agg (SE.c ((i : Int), S)).toArray, .int .i64 1, HV own] w fun e w' => e = .returned (HV (fkH i S own)) ∧ Below w.heap.size w w' := by
  obtain ⟨N, HN⟩ : ∃ N, Hid (w.heap.size = N) := ⟨_, rfl⟩
  have h2 : 2 ≤ N := by rw [← HN.out]; exact hT.size
  have HT := hide hT
  clear hT
  rw [HN.out]
  unfold HV
  go_enter Tryd.func37, Tryd.ntmps37
  go_upto_region 2 with fail
  obtain ⟨w1, hw1⟩ : ∃ z, z = (((w.alloc (.cells (SE.c ((i : Int), S)).toArray 70 (0, 0))).alloc (.cells (By own.1).toArray 24 (0, 0))).alloc (.cells (By zh.1).toArray 24 (0, 0))).alloc (.cells (By zh.1 ++ By zh.1).toArray 117 (0, 0)) := ⟨_, rfl⟩
  change Code.wp _ _ _ _ ((((w.alloc (.cells (SE.c ((i : Int), S)).toArray 70 (0, 0))).alloc (.cells (By own.1).toArray 24 (0, 0))).alloc (.cells (By zh.1).toArray 24 (0, 0))).alloc (.cells (By zh.1 ++ By zh.1).toArray 117 (0, 0)))
  rw [← hw1, HN.out]
  obtain ⟨b0, b1, b2, b3, ln, sz1⟩ := box4 HN hw1
  clear hw1
  obtain ⟨D, HD⟩ : ∃ D, Hid (N + 3 = D) := ⟨_, rfl⟩
  have hD : N + 3 ≤ D := Nat.le_of_eq HD.out
  rw [HD.out] at b3
  have B0 := hide b0
  have B1 := hide b1
  have B2 := hide b2
  have B3 := hide b3
  have L1 := hide ln
  have Z1 := hide sz1
  clear b0 b1 b2 b3 ln sz1
  rw [show N + 1 + 1 + 1 = D from HD.out]
  have hDN : Hid (D = N + 3) := HD.out.symm
  refine pivots_by (jl_wp Tryd.mixed) (fun i_ => match i_ with | 0 | 1 => .int .i64 1 | 2 => .int .i64 0 | 3 => HV own | 4 => .pointer (some ⟨N, 1, none⟩) | 5 => HV S | 6 => .pointer (some ⟨D, 32, none⟩) | 7 => undef | _ => undef) (fun b_ w' => Blk w' D 117 (By (zh).1 ++ By ((if b_ = 1 then own else zh)).1) ∧ Below N w w' ∧ Blk w' N 70 (SE.c ((i : Int), S)) ∧ Blk w' (N + 1) 24 (By own.1) ∧ Blk w' (N + 2) 24 (By zh.1)) [7] 23 rfl (by decide +kernel) 8 (by decide) (by decide) (by decide) (by decide +kernel) (by decide +kernel) ?_ ?_ ?_
  · intro w' hh hg
    exact ⟨by simpa using B3.out.kept hg, L1.out.trans (hg.mono (by rw [Z1.out]; omega)), B0.out.kept hg, B1.out.kept hg, B2.out.kept hg⟩
  · refine AllFrom.cons ⟨rfl, ?_, ?_⟩ (AllFrom.cons ⟨rfl, ?_, ?_⟩ (AllFrom.cons ⟨rfl, ?_, ?_⟩ (AllFrom.cons ⟨rfl, ?_, ?_⟩ (AllFrom.cons ⟨rfl, ?_, ?_⟩ (AllFrom.cons ⟨rfl, ?_, ?_⟩ (AllFrom.cons ⟨rfl, ?_, ?_⟩ (AllFrom.cons ⟨rfl, ?_, ?_⟩ AllFrom.nil)))))))
    · intro _ a' b' w' hC hk hd Q
      have e1 : a'.eval (.tmp 1) = .int .i64 1 := hk.at 1 (by decide +kernel)
      exact wp_same _ (by simp only [execOp, e1]; rfl) hC
    · intro j hj; exact absurd hj (pv_no (by decide) _)
    · intro _ a' b' w' hC hk hd Q
      have e1 : a'.eval (.tmp 1) = .int .i64 1 := hk.at 1 (by decide +kernel)
      exact wp_same _ (by simp only [execOp, e1]; rfl) hC
    · intro j hj; exact absurd hj (pv_no (by decide) _)
    · intro _ a' b' w' hC hk hd Q
      have e9 : a'.eval (.tmp 9) = .int .i64 1 := hd 1 9 (by decide +kernel)
      exact wp_same _ (by clear hd hk hC; simp only [execOp, e9]; go_simp; first | done | rfl | decide) hC
    · intro j hj; exact absurd hj (pv_no (by decide) _)
    · intro _ a' b' w' hC hk hd Q
      have e5 : a'.eval (.tmp 5) = .pointer (some ⟨N + 1, 0, none⟩) := hk.at 5 (by decide +kernel)
      exact wp_loadC 24 _ rfl _ _ e5 (By own.1) _ hC.2.2.2.1.range0 Tryd.underlying24 rfl (Tryd.sizeH _) hC
    · intro j hj; exact absurd hj (pv_no (by decide) _)
    · intro _ a' b' w' hC hk hd Q
      have e3 : a'.eval (.tmp 3) = .pointer (some ⟨N, 0, none⟩) := hk.at 3 (by decide +kernel)
      exact wp_same _ (by clear hd hk hC; simp only [execOp, e3]; go_simp) hC
    · intro j hj; exact absurd hj (pv_no (by decide) _)
    · intro _ a' b' w' hC hk hd Q
      have e12 : a'.eval (.tmp 12) = .pointer (some ⟨N, 1, none⟩) := hd 4 12 (by decide +kernel)
      exact wp_loadC 24 _ rfl _ _ e12 (By S.1) _ (SEside hC.2.2.1.range0) Tryd.underlying24 rfl (Tryd.sizeH _) hC
    · intro j hj; exact absurd hj (pv_no (by decide) _)
    · intro _ a' b' w' hC hk hd Q
      have e7 : a'.eval (.tmp 7) = .pointer (some ⟨D, 0, none⟩) := hk.at 7 (by decide +kernel)
      have e8 : a'.eval (.tmp 8) = .int .i64 1 := hd 0 8 (by decide +kernel)
      exact wp_same _ (by clear hd hk hC; simp only [execOp, e7, e8]; go_simp) hC
    · intro j hj; exact absurd hj (pv_no (by decide) _)
    · intro h; exact absurd (by decide) h
    · intro j hj
      obtain rfl : j = 0 := pv_at (by decide) rfl hj
      refine ⟨rfl, fun a' w' hC hk hd Q => ?_⟩
      have e11 : a'.eval (.tmp 11) = HV own := hd 3 11 (by decide +kernel)
      have e14 : a'.eval (.tmp 14) = .pointer (some ⟨D, 32, none⟩) := hd 6 14 (by decide +kernel)
      obtain ⟨hC1, hC2, hC3, hC4, hC5⟩ := hC
      simp only [Nat.zero_ne_one, if_false] at hC1
      refine wp_store_mid 24 _ _ rfl D 32 (By own.1).toArray e14 e11 (by rw [List.size_toArray, By_len]; exact hC1.there 32 32 (by simp [By_len])) (by simpa using Tryd.sizeH own) (all_one (By_one _)) ?_
      have hb4 := hC1.over (By own.1) 32 (by simp [By_len])
      have hu4 := But.setCells D (By own.1) 32 w'
      rw [over_right] at hb4
      exact ⟨rfl, by simpa using hb4, hC2.trans (hu4.below (by omega) (by have := hC3.lt; omega)), hC3.but hu4 (by omega), hC4.but hu4 (by omega), hC5.but hu4 (by omega)⟩
  · intro a' w' hsz hdf hk hall hC
    have e8 : a'.eval (.tmp 8) = .int .i64 1 := hall 0 _ 8 (by decide) rfl rfl
    have e9 : a'.eval (.tmp 9) = .int .i64 1 := hall 1 _ 9 (by decide) rfl rfl
    have e10 : a'.eval (.tmp 10) = .int .i64 0 := hall 2 _ 10 (by decide) rfl rfl
    have e11 : a'.eval (.tmp 11) = HV own := hall 3 _ 11 (by decide) rfl rfl
    have e12 : a'.eval (.tmp 12) = .pointer (some ⟨N, 1, none⟩) := hall 4 _ 12 (by decide) rfl rfl
    have e13 : a'.eval (.tmp 13) = HV S := hall 5 _ 13 (by decide) rfl rfl
    have e14 : a'.eval (.tmp 14) = .pointer (some ⟨D, 32, none⟩) := hall 6 _ 14 (by decide) rfl rfl
    obtain ⟨z15, e15⟩ : ∃ v, a'.eval (.tmp 15) = v := ⟨_, rfl⟩
    obtain ⟨hC1, hC2, hC3, hC4, hC5⟩ := hC
    simp only [List.length_cons, List.length_nil, Nat.zero_add, if_true] at hC1
    have e7 : a'.eval (.tmp 7) = .pointer (some ⟨D, 0, none⟩) := hk.all.at 7 (by decide +kernel)
    refine ⟨rfl, ?_⟩
    refine Oper.wp_mono ?_ (wp_same (C := fun x => x = w') (.pointer (some ⟨D, 0, none⟩)) (by simp only [execOp, e7, e10]; go_simp) rfl)
    rintro a2 w2 ⟨rfl, rfl⟩
    refine ⟨_, rfl, rfl, ?_⟩
    refine wp_store_mid 24 (.tmp 15) (.tmp 13) rfl D 0 (By S.1).toArray (by rw [eval_put_same (by rw [hsz]; simp)]) (by rw [eval_put_other (by decide)]; exact e13) (by rw [List.size_toArray, By_len]; exact hC1.there 0 32 (by simp [By_len])) (by simpa using Tryd.sizeH S) (all_one (By_one _)) ?_
    have hb5 := hC1.over (By S.1) 0 (by simp [By_len])
    have hu5 := But.setCells D (By S.1) 0 w2
    rw [over_left] at hb5
    simp only
    generalize w2.setCells D 0 (By S.1) = w5 at hb5 hu5 ⊢
    refine ⟨_, rfl, ?_⟩
    have rx : w5.rangeAt D 0 (By S.1) := (By2_range hb5).1
    have ry : w5.rangeAt D 32 (By own.1) := (By2_range hb5).2
    have cb : w5.cell? ⟨N, 0, none⟩ = some (.int .i64 (i : Int)) := SEbit (hC3.but hu5 (by omega)).range0
    have B5 := hide (hC5.but hu5 (by omega))
    have L5 : Hid (Below N w w5) := hC2.trans (hu5.below (by omega) (by have := hC3.lt; omega))
    clear hb5 hu5 hC1 hC2 hC3 hC4 hC5
    have ha := act_puts 23 rfl hsz hdf hk.all [8, 9, 10, 11, 12, 13, 14, 15] (by decide +kernel)
    simp only [puts, List.foldl_cons, List.foldl_nil, e8, e9, e10, e11, e12, e13, e14, e15] at ha
    simp only [Act.put, List.setIfInBounds_toArray, List.set_cons_succ, List.set_cons_zero] at ha
    show Exit.then _ _ Exit.normal { tmps := (a'.tmps.setIfInBounds 15 _), defers := a'.defers } w5
    subst ha
    clear hall hk hsz hdf e7 e8 e9 e10 e11 e12 e13 e14 e15
    have T5 := hide (HT.out.kept (L5.out.mono h2))
    go_wp2_with (first
      | (refine wpList_load_mid rfl 24 _ rfl D 0 rfl (By S.1) _ rx Tryd.underlying24 rfl (Tryd.sizeH _) ?_)
      | (refine wpList_load_mid rfl 24 _ rfl D 32 rfl (By own.1) _ ry Tryd.underlying24 rfl (Tryd.sizeH _) ?_)
      | fail)
    refine (hfork_any i S own w5 T5.out).mono ?_
    rintro e w6 ⟨rfl, hb6⟩
    have B6 := hide (B5.out.kept hb6)
    have L6 : Hid (Below N w w6) := L5.out.trans (hb6.mono (by have := B5.out.lt; omega))
    clear hb6
    obtain ⟨z, HZ⟩ : ∃ z, Hid (fkH i S own = z) := ⟨_, rfl⟩
    rw [HZ.out]
    go_wp2_with (first
      | (refine wpList_store_blk rfl 24 _ _ rfl (N + 2) (By zh.1) (By z.1) 24 rfl rfl B6.out (by rw [By_len, By_len]) (Tryd.sizeH z) (By_one _) ?_; intro w7 hb7 hu7)
      | fail)
    refine bodyPost_ret (ret_hash rfl _ _ (N + 2) z rfl hb7) rfl ⟨by rw [HZ.out]; rfl, ?_⟩
    exact L6.out.trans (hu7.below (by omega) (by have := B6.out.lt; omega))
#print axioms eroot_any
#print axioms join1_any
end Go.Proofs.YtooffljimdklfaaDoor
