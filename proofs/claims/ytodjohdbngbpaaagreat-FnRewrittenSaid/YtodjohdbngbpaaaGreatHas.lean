/-
  Contracts of HasAnnouncements of both sides. No condition but the reading.
-/
import Derived.Test.YtodjohdbngbpaaaGreatCount
namespace Go.Proofs.YtodjohdbngbpaaaGreat
open Go.RowKit
open Go Go.Deep

/-- a node is an announcement -/
def hasA (xs : List Nd) : Bool := decide (0 < cntOp xs 9)

set_option maxHeartbeats 2000000 in
theorem implHasAnnouncements_any (xs : List Nd) (v : Value) (w : World) (hr : Ns w v xs) (hn : xs.length ≤ 1048576) :
    Calls Tryz.prog 29 #[v] w fun e w' => e = .returned (.bool (hasA xs)) ∧ Below w.heap.size w w' := by
  have K := Lib.hid (implCountOp_any v xs 9 w hr hn)
  have HE : Hid (hasA xs = decide ((0 : Int) < ((cntOp xs 9 : Nat) : Int))) := Lib.hid (by unfold hasA; rw [decide_eq_decide]; omega)
  clear hr
  go_enter Tryz.func29, Tryz.ntmps29
  go_wp2_with fail
  refine K.out.mono ?_
  rintro e w1 ⟨rfl, hb1⟩
  have B1 := Lib.hid hb1; clear hb1
  go_wp2
  go_ret
  exact ⟨ret_bool (by rw [HE.out]; simp), B1.out⟩
end Go.Proofs.YtodjohdbngbpaaaGreat
