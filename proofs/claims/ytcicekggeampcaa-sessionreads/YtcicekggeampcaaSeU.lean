/-
  package session: what the calls do of a session that no call made, or that has no transaction.
-/
import Derived.Test.YtcicekggeampcaaSeT
namespace Go.Proofs.Ytcicekggeampcaa
open Go.RowKit
set_option maxRecDepth 100000 in
theorem zAct_un {w : World} {v : Value} (h : UnS w v) : Calls Try.prog 41 #[v] w fun e w' => e = .returned (.int .i64 1) ∧ w' = w := by
  have CM := hide (zMade_un h)
  clear h
  go_enter Try.func41, Try.ntmps41
  go_wp2_with fail
  refine CM.out.mono ?_
  rintro e w_ ⟨rfl, hw⟩
  subst w_
  go_wp2_with fail
  go_ret
  exact ⟨rfl, rfl⟩
set_option maxRecDepth 100000 in
theorem zAct_no {w : World} {B X : Nat} {id : Int} (h : SesAt w B X id none) : Calls Try.prog 41 #[PT X] w fun e w' => e = .returned (.int .i64 9) ∧ w' = w := by
  have CM := hide (zMade_any h.x h.id.1)
  have CO := hide (zOpen_any h)
  clear h
  go_enter Try.func41, Try.ntmps41
  go_wp2_with fail
  refine CM.out.mono ?_
  rintro e w_ ⟨rfl, hw⟩
  subst w_
  go_wp2_with fail
  refine CO.out.mono ?_
  rintro e w_ ⟨rfl, hw⟩
  subst w_
  go_wp2_with fail
  go_ret
  exact ⟨rfl, rfl⟩
set_option maxRecDepth 100000 in
theorem zGet_un {w : World} {v : Value} (h : UnS w v) (x : Value) (k : ByteArray) : Calls Try.prog 17 #[v, x, .string k] w fun e w' => e = .returned (.tuple #[.string ⟨#[]⟩, .int .i64 1]) ∧ w' = w := by
  have CA := hide (zAct_un h)
  clear h
  go_enter Try.func17, Try.ntmps17
  go_wp2_with fail
  refine CA.out.mono ?_
  rintro e w_ ⟨rfl, hw⟩
  subst w_
  go_wp2_with fail
  go_ret2
  exact ⟨rfl, rfl⟩
set_option maxRecDepth 100000 in
theorem zPut_un {w : World} {v : Value} (h : UnS w v) (k y : ByteArray) : Calls Try.prog 22 #[v, .string k, .string y] w fun e w' => e = .returned (.int .i64 1) ∧ w' = w := by
  have CA := hide (zAct_un h)
  clear h
  go_enter Try.func22, Try.ntmps22
  go_wp2_with fail
  refine CA.out.mono ?_
  rintro e w_ ⟨rfl, hw⟩
  subst w_
  go_wp2_with fail
  go_ret
  exact ⟨rfl, rfl⟩
set_option maxRecDepth 100000 in
theorem zDrop_un {w : World} {v : Value} (h : UnS w v) (k : ByteArray) : Calls Try.prog 20 #[v, .string k] w fun e w' => e = .returned (.int .i64 1) ∧ w' = w := by
  have CA := hide (zAct_un h)
  clear h
  go_enter Try.func20, Try.ntmps20
  go_wp2_with fail
  refine CA.out.mono ?_
  rintro e w_ ⟨rfl, hw⟩
  subst w_
  go_wp2_with fail
  go_ret
  exact ⟨rfl, rfl⟩
set_option maxRecDepth 100000 in
theorem zScan_un {w : World} {v : Value} (h : UnS w v) (x : Value) (a b : ByteArray) : Calls Try.prog 27 #[v, x, .string a, .string b] w fun e w' => e = .returned (.tuple #[.slice none 0 0, .int .i64 1]) ∧ w' = w := by
  have CA := hide (zAct_un h)
  clear h
  go_enter Try.func27, Try.ntmps27
  go_wp2_with fail
  refine CA.out.mono ?_
  rintro e w_ ⟨rfl, hw⟩
  subst w_
  go_wp2_with fail
  go_ret2
  exact ⟨rfl, rfl⟩
set_option maxRecDepth 100000 in
theorem zGet_no {w : World} {B X : Nat} {id : Int} (h : SesAt w B X id none) (x : Value) (k : ByteArray) : Calls Try.prog 17 #[PT X, x, .string k] w fun e w' => e = .returned (.tuple #[.string ⟨#[]⟩, .int .i64 9]) ∧ w' = w := by
  have CA := hide (zAct_no h)
  clear h
  go_enter Try.func17, Try.ntmps17
  go_wp2_with fail
  refine CA.out.mono ?_
  rintro e w_ ⟨rfl, hw⟩
  subst w_
  go_wp2_with fail
  go_ret2
  exact ⟨rfl, rfl⟩
set_option maxRecDepth 100000 in
theorem zPut_no {w : World} {B X : Nat} {id : Int} (h : SesAt w B X id none) (k y : ByteArray) : Calls Try.prog 22 #[PT X, .string k, .string y] w fun e w' => e = .returned (.int .i64 9) ∧ w' = w := by
  have CA := hide (zAct_no h)
  clear h
  go_enter Try.func22, Try.ntmps22
  go_wp2_with fail
  refine CA.out.mono ?_
  rintro e w_ ⟨rfl, hw⟩
  subst w_
  go_wp2_with fail
  go_ret
  exact ⟨rfl, rfl⟩
set_option maxRecDepth 100000 in
theorem zDrop_no {w : World} {B X : Nat} {id : Int} (h : SesAt w B X id none) (k : ByteArray) : Calls Try.prog 20 #[PT X, .string k] w fun e w' => e = .returned (.int .i64 9) ∧ w' = w := by
  have CA := hide (zAct_no h)
  clear h
  go_enter Try.func20, Try.ntmps20
  go_wp2_with fail
  refine CA.out.mono ?_
  rintro e w_ ⟨rfl, hw⟩
  subst w_
  go_wp2_with fail
  go_ret
  exact ⟨rfl, rfl⟩
set_option maxRecDepth 100000 in
theorem zScan_no {w : World} {B X : Nat} {id : Int} (h : SesAt w B X id none) (x : Value) (a b : ByteArray) : Calls Try.prog 27 #[PT X, x, .string a, .string b] w fun e w' => e = .returned (.tuple #[.slice none 0 0, .int .i64 9]) ∧ w' = w := by
  have CA := hide (zAct_no h)
  clear h
  go_enter Try.func27, Try.ntmps27
  go_wp2_with fail
  refine CA.out.mono ?_
  rintro e w_ ⟨rfl, hw⟩
  subst w_
  go_wp2_with fail
  go_ret2
  exact ⟨rfl, rfl⟩
set_option maxRecDepth 100000 in
theorem zClose_un {w : World} {v : Value} (h : UnS w v) : Calls Try.prog 26 #[v] w fun e w' => e = .returned (.bool false) ∧ w' = w := by
  have CO := hide (zOpen_un h)
  clear h
  go_enter Try.func26, Try.ntmps26
  go_wp2_with fail
  refine CO.out.mono ?_
  rintro e w_ ⟨rfl, hw⟩
  subst w_
  go_wp2_with fail
  go_ret
  exact ⟨rfl, rfl⟩
set_option maxRecDepth 100000 in
theorem zSnap_un {w : World} {v : Value} (h : UnS w v) : Calls Try.prog 23 #[v] w fun e w' => e = .returned (.int .i64 0) ∧ w' = w := by
  have CO := hide (zOpen_un h)
  clear h
  go_enter Try.func23, Try.ntmps23
  go_wp2_with fail
  refine CO.out.mono ?_
  rintro e w_ ⟨rfl, hw⟩
  subst w_
  go_wp2_with fail
  go_ret
  exact ⟨rfl, rfl⟩
set_option maxRecDepth 100000 in
theorem zOps_un {w : World} {v : Value} (h : UnS w v) : Calls Try.prog 19 #[v] w fun e w' => e = .returned (.int .i64 0) ∧ w' = w := by
  have CO := hide (zOpen_un h)
  clear h
  go_enter Try.func19, Try.ntmps19
  go_wp2_with fail
  refine CO.out.mono ?_
  rintro e w_ ⟨rfl, hw⟩
  subst w_
  go_wp2_with fail
  go_ret
  exact ⟨rfl, rfl⟩
theorem zRec_un {w : World} {v : Value} (h : UnS w v) : Calls Try.prog 25 #[v] w fun e w' => e = .returned (.tuple #[.agg (RC zr).toArray, .bool false]) ∧ Below w.heap.size w w' := zRec_no (fun _ hW => zOpen_un (h.kept hW))
theorem zRec_none {w : World} {B X : Nat} {id : Int} (h : SesAt w B X id none) : Calls Try.prog 25 #[PT X] w fun e w' => e = .returned (.tuple #[.agg (RC zr).toArray, .bool false]) ∧ Below w.heap.size w w' := zRec_no (fun _ hW => zOpen_any (h.kept hW))
end Go.Proofs.Ytcicekggeampcaa
