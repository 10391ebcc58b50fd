/-
  Two stores and two sessions beside each other: what the calls do.
-/
import Derived.Test.YtcicekggeampcaaGreatYrG
import Derived.Test.YtcicekggeampcaaGreatGSd
namespace Go.Proofs.YtcicekggeampcaaGreat
open Go.RowKit
def getO (s : SP) (z : Option Tx) (k : ByteArray) : (ByteArray × Int) × Option Tx :=
  match z with
  | none => ((em, 9), none)
  | some t => ((getT s t k).1, some (getT s t k).2)
def putO (z : Option Tx) (p : Pr) : Int × Option Tx :=
  match z with
  | none => (9, none)
  | some t => ((putT t p).1, some (putT t p).2)
def scanO (s : SP) (ks : List ByteArray) (z : Option Tx) (a b : ByteArray) : (List Pr × Int) × Option Tx :=
  match z with
  | none => (([], 9), none)
  | some t => ((scanT s ks t a b).1, some (scanT s ks t a b).2)
def beginO (s : SP) (z : Option Tx) (st : Bool) : Int × Option Tx :=
  match z with
  | none => (0, some ⟨s.last, st, [], [], 0⟩)
  | some t => (9, some t)
def snapO : Option Tx → Int
  | none => 0
  | some t => t.snap
def opsO : Option Tx → Nat
  | none => 0
  | some t => t.ops
/-- A transaction's writes and reads are within their bounds. -/
def OkT (t : Tx) : Prop := Bs t.W ∧ t.W.length ≤ 64 ∧ ∀ x ∈ t.R, x.2.2.2.length ≤ 200
theorem saw_short {R : List Rp} {k : ByteArray} {ps : List Pr} (h : ∀ x ∈ R, x.2.2.2.length ≤ 200) (hp : ps.length ≤ 200) : ∀ x ∈ sawP R k ps, x.2.2.2.length ≤ 200 := by
  unfold sawP
  split
  · exact h
  · intro x hx
    rcases List.mem_append.1 hx with hx | hx
    · exact h x hx
    · rw [List.mem_singleton] at hx
      subst hx
      exact hp
theorem get_short {s : SP} {t : Tx} (h : ∀ x ∈ t.R, x.2.2.2.length ≤ 200) (k : ByteArray) : ∀ x ∈ (getT s t k).2.R, x.2.2.2.length ≤ 200 := by
  unfold getT
  split
  · exact h
  split
  · exact h
  split
  · exact h
  · dsimp only
    split
    · exact saw_short h (by simp)
    split
    · exact saw_short h (by simp)
    · exact h
theorem put_short {t : Tx} (h : ∀ x ∈ t.R, x.2.2.2.length ≤ 200) (p : Pr) : ∀ x ∈ (putT t p).2.R, x.2.2.2.length ≤ 200 := by
  unfold putT
  split <;> exact h
theorem scan_short {s : SP} {ks : List ByteArray} {t : Tx} (h : ∀ x ∈ t.R, x.2.2.2.length ≤ 200) (a b : ByteArray) : ∀ x ∈ (scanT s ks t a b).2.R, x.2.2.2.length ≤ 200 := by
  unfold scanT
  split
  · exact h
  split
  · exact h
  split
  · exact h
  split
  · exact h
  · rename_i h4
    intro x hx
    rcases List.mem_append.1 hx with hx | hx
    · exact h x hx
    · rw [List.mem_singleton] at hx
      subst hx
      exact Nat.le_of_not_lt h4
/-- Two stores, two sessions: what they are, plain. -/
def Two (Z : Nat → Prop) (w0 w : World) (D R i : Nat) (s t : SP) (X Y : Nat) (id : Int) (z z' : Option Tx) : Prop :=
  ∃ o y, Tri Z w0 w D R i s t X Y id o y ∧ o.map (·.2) = z ∧ y.map (·.2) = z' ∧ ∀ t, z' = some t → OkT t
section
variable {Z : Nat → Prop} {w0 w w' : World} {D R i j : Nat} {s s' t t' : SP} {X Y : Nat} {id : Int} {z z' : Option Tx}
theorem Two.kept (h : Two Z w0 w D R i s t X Y id z z') (hb : Below w.heap.size w w') : Two Z w0 w' D R i s t X Y id z z' := by
  obtain ⟨o, y, h1, h2⟩ := h
  exact ⟨o, y, h1.kept hb, h2⟩
theorem Two.mono (h : Two Z w0 w D R i s t X Y id z z') (hij : i ≤ j) : Two Z w0 w D R j s t X Y id z z' := by
  obtain ⟨o, y, h1, h2⟩ := h
  exact ⟨o, y, h1.mono hij, h2⟩
theorem Two.less {Z' : Nat → Prop} (h : Two Z w0 w D R i s t X Y id z z') (hZ : ∀ b, Z' b → Z b) : Two Z' w0 w D R i s t X Y id z z' := by
  obtain ⟨o, y, h1, h2⟩ := h
  exact ⟨o, y, h1.less hZ, h2⟩
theorem Two.lo (h : Two Z w0 w D R i s t X Y id z z') : Below w0.heap.size w0 w := by
  obtain ⟨o, y, h1, -⟩ := h
  exact h1.lo
theorem Two.bnd (h : Two Z w0 w D R i s t X Y id z z') : 0 ≤ s.floor ∧ s.floor ≤ s.last ∧ s.last ≤ i := by
  obtain ⟨o, y, h1, -⟩ := h
  exact h1.lr.ls.bnd
theorem Two.inv (h : Two Z w0 w D R i s t X Y id z z') : ∃ ks, Inv t ks := by
  obtain ⟨o, y, h1, -⟩ := h
  obtain ⟨vr, rs, h2, -⟩ := h1.lr.rs
  exact ⟨_, h2.inv⟩
theorem Two.last (h : Two Z w0 w D R i s t X Y id z z') : Calls Tryz.prog 30 #[PT D] w fun e w' => e = .returned (.int .i64 s.last) ∧ w' = w := by
  obtain ⟨o, y, h1, -⟩ := h
  exact h1.lr.ls.last
theorem Two.rlast (h : Two Z w0 w D R i s t X Y id z z') : w.cell? ⟨R, 1, none⟩ = some (.int .i64 t.last) := by
  obtain ⟨o, y, h1, -⟩ := h
  obtain ⟨vr, rs, h2, -⟩ := h1.lr.rs
  exact h2.d.cell (j := 1) rfl
theorem Two.own (h : Two Z w0 w D R i s t X Y id z z') (hb : Below w.heap.size w w') {E : Nat} (hE : w.heap.size ≤ E) (hE' : E < w'.heap.size) : Two (fun b => b = E) w0 w' D R i s t X Y id z z' := by
  obtain ⟨o, y, h1, h2⟩ := h
  exact ⟨o, y, h1.own hb hE hE', h2⟩
/-- The session's transaction, where there is one. -/
theorem Tri.okT {o : Option (Tb × Tx)} {y : Option (Yb × Tx)} (h : Tri Z w0 w D R i s t X Y id o y) {t1 : Tx} (ho : o.map (·.2) = some t1) (hR : ∀ x ∈ t1.R, x.2.2.2.length ≤ 200) : OkT t1 := by
  cases o with
  | none => cases ho
  | some v =>
    obtain ⟨b, t2⟩ := v
    cases ho
    have hb := (h.ss.tx b _ rfl).buf
    exact ⟨hb.srt, hb.len, hR⟩
theorem Two.prog {b : Tb} {t1 t2 : Tx} {y : Option (Yb × Tx)} (h : Tri Z w0 w D R i s t X Y id (some (b, t1)) y) (hy : y.map (·.2) = z') (hk : ∀ t, z' = some t → OkT t) {r : Value} {e : Ending} (hp : ActPost w0 w D i s X id b t1 t2 r e w') :
    e = .returned r ∧ Two Z w0 w' D R i s t X Y id (some t2) z' ∧ Same Z w w' := by
  obtain ⟨he, b', hd, hc, -, hG⟩ := hp
  obtain ⟨h1, h2⟩ := h.sg hd.ss hc (fun _ hk => hk) hG
  exact ⟨he, ⟨_, _, h1, rfl, hy, hk⟩, h2⟩
theorem Two.ref {o : Option (Tb × Tx)} {b : Yb} {t1 t2 : Tx} (h : Tri Z w0 w D R i s t X Y id o (some (b, t1))) (ho : o.map (·.2) = some t2) (hR : ∀ x ∈ t2.R, x.2.2.2.length ≤ 200) {r : Value} {e : Ending} (hp : RefPost w w0.heap.size Y id b t1 t2 r e w') :
    e = .returned r ∧ Two Z w0 w' D R i s t X Y id (some t2) (some t2) ∧ Same Z w w' := by
  obtain ⟨he, b', hs, hc, hG⟩ := hp
  obtain ⟨h1, h2⟩ := h.yg hs hc (fun _ hk => hk) hG
  exact ⟨he, ⟨_, _, h1, ho, rfl, fun t e => by cases e; exact h1.okT ho hR⟩, h2⟩
theorem Two.stay {o : Option (Tb × Tx)} {y : Option (Yb × Tx)} (h : Tri Z w0 w D R i s t X Y id o y) (ho : o.map (·.2) = z) (hy : y.map (·.2) = z') (hk : ∀ t, z' = some t → OkT t) {r : Value} {e : Ending} (hp : e = .returned r ∧ w' = w) :
    e = .returned r ∧ Two Z w0 w' D R i s t X Y id z z' ∧ Same Z w w' := by
  obtain ⟨he, rfl⟩ := hp
  exact ⟨he, ⟨_, _, h, ho, hy, hk⟩, fun _ _ => rfl⟩
theorem Two.zget (h : Two Z w0 w D R i s t X Y id z z') (hi : i ≤ 1000) (k : ByteArray) (hk : k.size ≤ maxLen) :
    Calls Tryz.prog 18 #[PT X, PT D, .string k] w fun e w' => e = .returned (.tuple #[.string (getO s z k).1.1, .int .i64 (getO s z k).1.2]) ∧ Two Z w0 w' D R i s t X Y id (getO s z k).2 z' ∧ Same Z w w' := by
  obtain ⟨o, y, h1, rfl, h3, h4⟩ := h
  cases o with
  | none => exact (zGet_no h1.ss _ k).mono fun e w' hp => Two.stay h1 rfl h3 h4 hp
  | some v =>
    obtain ⟨b, t1⟩ := v
    exact (zGet_any h1.duo hi k hk).mono fun e w' hp => Two.prog h1 h3 h4 hp
theorem Two.zput (h : Two Z w0 w D R i s t X Y id z z') (k v : ByteArray) (hk : k.size ≤ maxLen) :
    Calls Tryz.prog 17 #[PT X, .string k, .string v] w fun e w' => e = .returned (.int .i64 (putO z (k, v, false)).1) ∧ Two Z w0 w' D R i s t X Y id (putO z (k, v, false)).2 z' ∧ Same Z w w' := by
  obtain ⟨o, y, h1, rfl, h3, h4⟩ := h
  cases o with
  | none => exact (zPut_no h1.ss k v).mono fun e w' hp => Two.stay h1 rfl h3 h4 hp
  | some u =>
    obtain ⟨b, t1⟩ := u
    exact (zPut_any h1.duo k v hk).mono fun e w' hp => Two.prog h1 h3 h4 hp
theorem Two.zdrop (h : Two Z w0 w D R i s t X Y id z z') (k : ByteArray) (hk : k.size ≤ maxLen) :
    Calls Tryz.prog 22 #[PT X, .string k] w fun e w' => e = .returned (.int .i64 (putO z (k, em, true)).1) ∧ Two Z w0 w' D R i s t X Y id (putO z (k, em, true)).2 z' ∧ Same Z w w' := by
  obtain ⟨o, y, h1, rfl, h3, h4⟩ := h
  cases o with
  | none => exact (zDrop_no h1.ss k).mono fun e w' hp => Two.stay h1 rfl h3 h4 hp
  | some u =>
    obtain ⟨b, t1⟩ := u
    exact (zDrop_any h1.duo k hk).mono fun e w' hp => Two.prog h1 h3 h4 hp
theorem Two.zscan (h : Two Z w0 w D R i s t X Y id z z') (hi : i ≤ 1000) {ks : List ByteArray} (hks : Inv s ks) (a b : ByteArray) :
    Calls Tryz.prog 24 #[PT X, PT D, .string a, .string b] w fun e w' => ∃ v, e = .returned (.tuple #[v, .int .i64 (scanO s ks z a b).1.2]) ∧ OwnG PE w' w.heap.size 51 v (scanO s ks z a b).1.1 ∧ Two Z w0 w' D R i s t X Y id (scanO s ks z a b).2 z' ∧ Same Z w w' := by
  obtain ⟨o, y, h1, rfl, h3, h4⟩ := h
  cases o with
  | none =>
    refine (zScan_no h1.ss _ a b).mono fun e w' hp => ?_
    obtain ⟨he, h5⟩ := Two.stay h1 rfl h3 h4 hp
    exact ⟨_, he, ownG_nil _ _ _, h5⟩
  | some u =>
    obtain ⟨b1, t1⟩ := u
    refine (zScan_any h1.duo hi hks a b).mono fun e w' hp => ?_
    obtain ⟨v, hp, ho⟩ := hp
    obtain ⟨he, h5⟩ := Two.prog h1 h3 h4 hp
    exact ⟨v, he, ho, h5⟩
theorem Two.zbegin (h : Two Z w0 w D R i s t X Y id z z') (hi : i ≤ 1000) (st : Bool) :
    Calls Tryz.prog 16 #[PT X, PT D, .bool st] w fun e w' => e = .returned (.int .i64 (beginO s z st).1) ∧ Two Z w0 w' D R i s t X Y id (beginO s z st).2 z' ∧ Same Z w w' := by
  obtain ⟨o, y, h1, rfl, h3, h4⟩ := h
  cases o with
  | none =>
    refine (h1.duo.begin hi st).mono fun e w' hp => ?_
    obtain ⟨he, b, hd, hc, hG⟩ := hp
    obtain ⟨h5, h6⟩ := h1.sg hd.ss hc (fun _ hk => hk) (fun k hk => hk.imp (fun e => e) (hG k))
    exact ⟨he, ⟨_, _, h5, rfl, h3, h4⟩, h6⟩
  | some u =>
    obtain ⟨b1, t1⟩ := u
    exact (zBegin_some h1.ss _ st).mono fun e w' hp => Two.stay h1 rfl h3 h4 hp
theorem Two.zclose (h : Two Z w0 w D R i s t X Y id z z') : Calls Tryz.prog 27 #[PT X] w fun e w' => e = .returned (.bool z.isSome) ∧ Two Z w0 w' D R i s t X Y id none z' ∧ Same Z w w' := by
  obtain ⟨o, y, h1, rfl, h3, h4⟩ := h
  refine (zClose_any h1.ss).mono fun e w' hp => ?_
  obtain ⟨he, hs, hc⟩ := hp
  obtain ⟨h5, h6⟩ := h1.sg hs hc (fun k hk => by cases o with | none => exact hk | some v => exact .inl hk) (fun k hk => .inl (by cases o with | none => exact hk | some v => exact .inl hk))
  exact ⟨by rw [he]; cases o <;> rfl, ⟨_, _, h5, rfl, h3, h4⟩, h6⟩
/-- The document's store, as its session asks for it. -/
theorem Tri.rs {o : Option (Tb × Tx)} {y : Option (Yb × Tx)} (h : Tri Z w0 w D R i s t X Y id o y) : ∃ vr rs, RS w R vr rs t ∧ ¬ SRB R vr rs Y ∧ rs.length ≤ 60 * i := by
  obtain ⟨vr, rs, -, h2, -, h4, h5, -⟩ := h.lr
  refine ⟨vr, rs, h2, h4 Y (.inr (.inr ?_)), h5⟩
  cases y with
  | none => rfl
  | some v => exact .inl rfl
theorem Two.yget {k : ByteArray} (h : Two Z w0 w D R i s t X Y id (getO t z k).2 z) :
    Calls Tryz.prog 20 #[PT Y, PT R, .string k] w fun e w' => e = .returned (.tuple #[.string (getO t z k).1.1, .int .i64 (getO t z k).1.2]) ∧ Two Z w0 w' D R i s t X Y id (getO t z k).2 (getO t z k).2 ∧ Same Z w w' := by
  obtain ⟨o, y, h1, h2, rfl, h4⟩ := h
  cases y with
  | none => exact (yGet_no h1.rr _ k).mono fun e w' hp => Two.stay h1 h2 rfl (fun _ e => by cases e) hp
  | some v =>
    obtain ⟨b, t1⟩ := v
    obtain ⟨vr, rs, h5, h6, -⟩ := h1.rs
    have h7 := h4 t1 rfl
    exact (yGet_any h1.rr h5 h6 h1.lo.size h7.2.1 k).mono fun e w' hp => Two.ref h1 h2 (get_short h7.2.2 k) hp
theorem Two.yput {k v : ByteArray} (h : Two Z w0 w D R i s t X Y id (putO z (k, v, false)).2 z) :
    Calls Tryz.prog 21 #[PT Y, .string k, .string v] w fun e w' => e = .returned (.int .i64 (putO z (k, v, false)).1) ∧ Two Z w0 w' D R i s t X Y id (putO z (k, v, false)).2 (putO z (k, v, false)).2 ∧ Same Z w w' := by
  obtain ⟨o, y, h1, h2, rfl, h4⟩ := h
  cases y with
  | none => exact (yPut_no h1.rr k v).mono fun e w' hp => Two.stay h1 h2 rfl (fun _ e => by cases e) hp
  | some u =>
    obtain ⟨b, t1⟩ := u
    have h7 := h4 t1 rfl
    exact (yPut_any h1.rr h7.1 h7.2.1 k v).mono fun e w' hp => Two.ref h1 h2 (put_short h7.2.2 _) hp
theorem Two.ydrop {k : ByteArray} (h : Two Z w0 w D R i s t X Y id (putO z (k, em, true)).2 z) :
    Calls Tryz.prog 23 #[PT Y, .string k] w fun e w' => e = .returned (.int .i64 (putO z (k, em, true)).1) ∧ Two Z w0 w' D R i s t X Y id (putO z (k, em, true)).2 (putO z (k, em, true)).2 ∧ Same Z w w' := by
  obtain ⟨o, y, h1, h2, rfl, h4⟩ := h
  cases y with
  | none => exact (yDrop_no h1.rr k).mono fun e w' hp => Two.stay h1 h2 rfl (fun _ e => by cases e) hp
  | some u =>
    obtain ⟨b, t1⟩ := u
    have h7 := h4 t1 rfl
    exact (yDrop_any h1.rr h7.1 h7.2.1 k).mono fun e w' hp => Two.ref h1 h2 (put_short h7.2.2 _) hp
theorem Two.yscan {ks : List ByteArray} {a b : ByteArray} (h : Two Z w0 w D R i s t X Y id (scanO t ks z a b).2 z) (hi : i ≤ 1000) (hks : Inv t ks) {B : Nat} {u : Value} {L : List Pr} (hu : OwnG PE w B 51 u L) :
    Calls Tryz.prog 25 #[PT Y, PT R, .string a, .string b] w fun e w' => ∃ v, e = .returned (.tuple #[v, .int .i64 (scanO t ks z a b).1.2]) ∧ RdG PE w' v (scanO t ks z a b).1.1 ∧ Two Z w0 w' D R i s t X Y id (scanO t ks z a b).2 (scanO t ks z a b).2 ∧ Same Z w w' ∧ OwnG PE w' B 51 u L := by
  obtain ⟨o, y, h1, h2, rfl, h4⟩ := h
  cases y with
  | none =>
    refine (yScan_no h1.rr _ a b).mono fun e w' hp => ?_
    obtain ⟨he, h5, h6⟩ := Two.stay h1 h2 rfl (fun _ e => by cases e) hp
    refine ⟨_, he, RdG_nil _, h5, h6, ?_⟩
    rw [hp.2]
    exact hu
  | some u =>
    obtain ⟨b1, t1⟩ := u
    obtain ⟨vr, rs, h5, h6, h8⟩ := h1.rs
    have h7 := h4 t1 rfl
    obtain rfl := hks.unique h5.inv
    refine (yScan_any h1.rr h5 h6 h1.lo.size h7.2.1 (by omega) a b).mono fun e w' hp => ?_
    obtain ⟨v, hp, hr⟩ := hp
    have hc := hp.2
    obtain ⟨he, h9, h10⟩ := Two.ref h1 h2 (scan_short h7.2.2 a b) hp
    obtain ⟨b', -, hc, -⟩ := hc
    refine ⟨v, he, hr, h9, h10, hu.chg hc (fun k hk hf => ?_)⟩
    obtain ⟨_, _, cur, hcc⟩ := hu.block hk
    exact h1.rr.noT (by decide) (by decide) (by decide) k cur hcc hf
theorem Two.ybegin {st : Bool} (h : Two Z w0 w D R i s t X Y id (beginO t z st).2 z) :
    Calls Tryz.prog 19 #[PT Y, PT R, .bool st] w fun e w' => e = .returned (.int .i64 (beginO t z st).1) ∧ Two Z w0 w' D R i s t X Y id (beginO t z st).2 (beginO t z st).2 ∧ Same Z w w' := by
  obtain ⟨o, y, h1, h2, rfl, h4⟩ := h
  cases y with
  | none =>
    obtain ⟨vr, rs, h5, h6, -⟩ := h1.rs
    refine (yBegin_any h1.rr h5 h1.lo.size st).mono fun e w' hp => ?_
    obtain ⟨he, b, hs, hc, hG⟩ := hp
    obtain ⟨h7, h8⟩ := h1.yg hs hc (fun _ hk => hk) hG
    exact ⟨he, ⟨_, _, h7, h2, rfl, fun t e => by cases e; exact h7.okT h2 (fun x hx => by cases hx)⟩, h8⟩
  | some u =>
    obtain ⟨b1, t1⟩ := u
    exact (yBegin_some h1.rr _ st).mono fun e w' hp => Two.stay h1 h2 rfl h4 hp
theorem Two.yclose (h : Two Z w0 w D R i s t X Y id none z) : Calls Tryz.prog 28 #[PT Y] w fun e w' => e = .returned (.bool z.isSome) ∧ Two Z w0 w' D R i s t X Y id none none ∧ Same Z w w' := by
  obtain ⟨o, y, h1, h2, rfl, h4⟩ := h
  refine (yClose_any h1.rr).mono fun e w' hp => ?_
  obtain ⟨he, hs, hc⟩ := hp
  obtain ⟨h5, h6⟩ := h1.yg hs hc (fun k hk => by cases y with | none => exact hk | some v => exact .inl hk) (fun k hk => .inl (by cases y with | none => exact hk | some v => exact .inl hk))
  exact ⟨by rw [he]; cases y <;> rfl, ⟨_, _, h5, h2, rfl, fun _ e => by cases e⟩, h6⟩
theorem Two.install (h : Two Z w0 w D R i s t X Y id z z') (hi : i ≤ 1000) {vl : Value} {L : List Pr} (hr : RdG PE w0 vl L) (hL : L.length ≤ 60) (n : Int) :
    Calls Tryz.prog 29 #[PT D, .int .i64 n, vl] w fun e w' => e = .returned (.int .i64 (if instOk s n L = true then 0 else 2)) ∧ Two Z w0 w' D R (i + 1) (instP s n L) t X Y id z z' ∧ Same Z w w' := by
  obtain ⟨o, y, h1, h2⟩ := h
  refine (h1.lr.installF hi hr hL n).mono fun e w' hp => ?_
  obtain ⟨he, hl, F, hF, hc⟩ := hp
  obtain ⟨h5, h6⟩ := h1.st hl hF hc
  exact ⟨he, ⟨o, y, h5, h2⟩, h6⟩
theorem Two.vinstall (h : Two Z w0 w D R i s t X Y id z z') (hi : i ≤ 1000) {vl : Value} {L : List Pr} (hr : RdG PE w0 vl L) (hL : L.length ≤ 60) (n : Int) :
    Calls Tryz.prog 31 #[PT R, .int .i64 n, vl] w fun e w' => e = .returned (.int .i64 (if instOk t n L = true then 0 else 2)) ∧ Two Z w0 w' D R (i + 1) s (instP t n L) X Y id z z' ∧ Same Z w w' := by
  obtain ⟨o, y, h1, h2⟩ := h
  refine (h1.lr.vinstallF hi hr hL n).mono fun e w' hp => ?_
  obtain ⟨he, hl, F, hF, hc⟩ := hp
  obtain ⟨h5, h6⟩ := h1.st hl hF hc
  exact ⟨he, ⟨o, y, h5, h2⟩, h6⟩
theorem Two.collect (h : Two Z w0 w D R i s t X Y id z z') (hi : i ≤ 1000) (n : Int) :
    Calls Tryz.prog 32 #[PT D, .int .i64 n] w fun e w' => e = .returned (.int .i64 (if collOk s n = true then 0 else 2)) ∧ Two Z w0 w' D R i (collP s n) t X Y id z z' ∧ Same Z w w' := by
  obtain ⟨o, y, h1, h2⟩ := h
  refine (h1.lr.collectF hi n).mono fun e w' hp => ?_
  obtain ⟨he, hl, F, hF, hc⟩ := hp
  obtain ⟨h5, h6⟩ := h1.st hl hF hc
  exact ⟨he, ⟨o, y, h5, h2⟩, h6⟩
theorem Two.vcollect (h : Two Z w0 w D R i s t X Y id z z') (hi : i ≤ 1000) (n : Int) :
    Calls Tryz.prog 33 #[PT R, .int .i64 n] w fun e w' => e = .returned (.int .i64 (if collOk t n = true then 0 else 2)) ∧ Two Z w0 w' D R i s (collP t n) X Y id z z' ∧ Same Z w w' := by
  obtain ⟨o, y, h1, h2⟩ := h
  refine (h1.lr.vcollectF hi n).mono fun e w' hp => ?_
  obtain ⟨he, hl, F, hF, hc⟩ := hp
  obtain ⟨h5, h6⟩ := h1.st hl hF hc
  exact ⟨he, ⟨o, y, h5, h2⟩, h6⟩
theorem Two.zopen (h : Two Z w0 w D R i s t X Y id z z') : Calls Tryz.prog 13 #[PT X] w fun e w' => e = .returned (.bool z.isSome) ∧ w' = w := by
  obtain ⟨o, y, h1, rfl, -⟩ := h
  have := zOpen_any h1.ss
  rw [show o.isSome = (o.map (·.2)).isSome by cases o <;> rfl] at this
  exact this
theorem Two.zsnap (h : Two Z w0 w D R i s t X Y id z z') : Calls Tryz.prog 14 #[PT X] w fun e w' => e = .returned (.int .i64 (snapO z)) ∧ w' = w := by
  obtain ⟨o, y, h1, rfl, -⟩ := h
  have := zSnap_any h1.ss
  rw [show snapP o = snapO (o.map (·.2)) by cases o <;> rfl] at this
  exact this
theorem Two.zops (h : Two Z w0 w D R i s t X Y id z z') : Calls Tryz.prog 15 #[PT X] w fun e w' => e = .returned (.int .i64 (opsO z)) ∧ w' = w := by
  obtain ⟨o, y, h1, rfl, -⟩ := h
  have := zOps_any h1.ss
  rw [show opsP o = opsO (o.map (·.2)) by cases o <;> rfl] at this
  exact this
theorem Two.ycells (h : Two Z w0 w D R i s t X Y id z z') : w.cell? ⟨Y, 1, none⟩ = some (.bool z'.isSome) ∧ w.cell? ⟨Y, 2, none⟩ = some (.int .i64 (snapO z')) ∧ w.cell? ⟨Y, 4, none⟩ = some (.int .i64 (opsO z')) := by
  obtain ⟨o, y, h1, -, rfl, -⟩ := h
  cases y with
  | none => exact ⟨h1.rr.x.cell (j := 1) rfl, h1.rr.x.cell (j := 2) rfl, h1.rr.x.cell (j := 4) rfl⟩
  | some v => exact ⟨h1.rr.x.cell (j := 1) rfl, h1.rr.x.cell (j := 2) rfl, h1.rr.x.cell (j := 4) rfl⟩
/-- What Record tells. -/
def recP (id : Int) : Option Tx → Int × Int × Bool × List Rp × List Pr
  | none => (0, 0, false, [], [])
  | some t => (id, t.snap, t.st, t.R, t.W)
def RecIs (w : World) (r : Rc) (id : Int) (z : Option Tx) : Prop := (r.ses, r.snap, r.st, r.rs.map plR, r.ws) = recP id z ∧ ROk w r
theorem RecIs.kept {r : Rc} (h : RecIs w r id z) (hb : Below w.heap.size w w') : RecIs w' r id z := ⟨h.1, h.2.kept hb⟩
theorem rec_zr (w : World) (id : Int) : RecIs w zr id none := ⟨rfl, RdX.nil w, RdG_nil w⟩
theorem Two.zrec (h : Two Z w0 w D R i s t X Y id z z) : Calls Tryz.prog 10 #[PT X] w fun e w' => ∃ r : Rc, e = .returned (.tuple #[.agg (RC r).toArray, .bool z.isSome]) ∧ RecIs w' r id z ∧ Below w.heap.size w w' := by
  obtain ⟨o, y, h1, rfl, -, h4⟩ := h
  cases o with
  | none => exact (zRec_none h1.ss).mono fun e w' hp => ⟨zr, hp.1, rec_zr _ _, hp.2⟩
  | some v =>
    obtain ⟨b, t1⟩ := v
    refine (zRec_any h1.ss (fun x hx => Nat.le_trans ((h4 t1 rfl).2.2 x hx) (by decide))).mono fun e w' hp => ?_
    obtain ⟨⟨r, he, g1, g2, g3, g4, g5, g6, g7⟩, hb⟩ := hp
    refine ⟨r, he, ⟨?_, g4.rd, g6.rd⟩, hb⟩
    rw [g1, g2, g3, g5, g7]
    rfl
theorem Two.yrec (h : Two Z w0 w D R i s t X Y id z z') : Calls Tryz.prog 11 #[PT Y] w fun e w' => ∃ r : Rc, e = .returned (.tuple #[.agg (RC r).toArray, .bool z'.isSome]) ∧ RecIs w' r id z' ∧ Below w.heap.size w w' := by
  obtain ⟨o, y, h1, -, rfl, -⟩ := h
  cases y with
  | none => exact (yRec_none h1.rr).mono fun e w' hp => ⟨zr, hp.1, rec_zr _ _, hp.2⟩
  | some v =>
    obtain ⟨b, t1⟩ := v
    refine (yRec_any h1.rr).mono fun e w' hp => ?_
    obtain ⟨⟨r, he, g1, g2, g3, g4, g5, g6, g7⟩, hb⟩ := hp
    refine ⟨r, he, ⟨?_, g4, g6⟩, hb⟩
    rw [g1, g2, g3, g5, g7]
    rfl
end
theorem Two.new {w0 w w2 : World} {D R X Y : Nat} {id : Int} (hX : SesAt w w0.heap.size X id none) (hY : YAt w w0.heap.size Y id none) (hXY : X ≠ Y) (hl : LR2 w w2 D R 0 sp0 sp0 (fun _ => False)) (hb : Below w0.heap.size w0 w) : Two (fun _ => False) w0 w2 D R 0 sp0 sp0 X Y id none none :=
  ⟨none, none, Tri.new hX hY hXY hl hb, rfl, rfl, fun _ e => by cases e⟩
end Go.Proofs.YtcicekggeampcaaGreat
