/-
  Contracts of HasAnnouncements of both sides. No condition but the reading.
-/
import Derived.Test.YtnpfnfenkklocaaCount
namespace Go.Proofs.Ytnpfnfenkklocaa
open Go.RowKit
open Go Go.Deep

/-- a node is an announcement -/
def hasA (xs : List Nd) : Bool := decide (0 < cntOp xs 9)

set_option maxHeartbeats 2000000 in
theorem specHasAnnouncements_any (xs : List Nd) (v : Value) (w : World) (hr : Ns w v xs) (hn : xs.length ≤ 1048576) :
    Calls Try.prog 15 #[v] w fun e w' => e = .returned (.bool (hasA xs)) ∧ Below w.heap.size w w' := by
  have K := Lib.hid (specCountOp_any v xs 9 w hr hn)
  have HE : Hid (hasA xs = decide ((0 : Int) < ((cntOp xs 9 : Nat) : Int))) := Lib.hid (by unfold hasA; rw [decide_eq_decide]; omega)
  clear hr
  go_enter Try.func15, Try.ntmps15
  go_wp2_with fail
  refine K.out.mono ?_
  rintro e w1 ⟨rfl, hb1⟩
  have B1 := Lib.hid hb1; clear hb1
  go_wp2
  go_ret
  exact ⟨ret_bool (by rw [HE.out]; simp), B1.out⟩

set_option maxHeartbeats 2000000 in
theorem implHasAnnouncements_any (xs : List Nd) (v : Value) (w : World) (hr : Ns w v xs) (hn : xs.length ≤ 1048576) :
    Calls Try.prog 16 #[v] w fun e w' => e = .returned (.bool (hasA xs)) ∧ Below w.heap.size w w' := by
  have K := Lib.hid (implCountOp_any v xs 9 w hr hn)
  have HE : Hid (hasA xs = decide ((0 : Int) < ((cntOp xs 9 : Nat) : Int))) := Lib.hid (by unfold hasA; rw [decide_eq_decide]; omega)
  clear hr
  go_enter Try.func16, Try.ntmps16
  go_wp2_with fail
  refine K.out.mono ?_
  rintro e w1 ⟨rfl, hb1⟩
  have B1 := Lib.hid hb1; clear hb1
  go_wp2
  go_ret
  exact ⟨ret_bool (by rw [HE.out]; simp), B1.out⟩
end Go.Proofs.Ytnpfnfenkklocaa
