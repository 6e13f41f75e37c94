/-
  The walk of the law FnExactHandText. The library's table is a premise.
-/
import Derived.Test.YteahjnobnbafiaaDoorCdx
import Derived.Test.YteahjnobnbafiaaDoorNuc
import Derived.Test.YteahjnobnbafiaaDoorCio
namespace Go.Proofs.YteahjnobnbafiaaDoor
open Go.RowKit
open Go

theorem tab_HandText {w : World} (hL : laidMetH Tryd.prog Rows.fnExactHandTextRow.laid w) : Tab w :=
  Lib.tabIs_of_head (rest := []) (t := 81) gPow (by kernel_rfl) Tryd.underlying81 Tryd.underlying75 (by kernel_rfl) (by kernel_rfl) (hL.filter (fun x => x.1 == "internal/strconv.uint64pow10"))

set_option maxHeartbeats 400000 in
theorem walk_FnExactHandText (a0 : Int) (w : World) (_w0 : (Lit.int .i64 a0).wf = true) (hL : laidMetH Tryd.prog Rows.fnExactHandTextRow.laid w) :
    Calls Tryd.prog 3 #[.int .i64 a0] w fun e w' => e = .returned (.bool true) ∧ Below w.heap.size w w' := by
  have ht := Lib.hid (tab_HandText hL)
  clear hL
  have S := Lib.hid (fun W => specHandText_any a0 W)
  have I := Lib.hid (fun W hT => implHandText_any a0 W hT)
  generalize (handB a0).toArray = l at S I
  go_enter Tryd.func3, Tryd.ntmps3
  go_wp2_with fail
  refine (S.out _).mono ?_
  rintro e w1 ⟨rfl, h1⟩
  have B1 := Lib.hid h1; clear h1
  go_wp2_with fail
  refine (I.out _ (ht.out.below B1.out (Nat.le_refl _))).mono ?_
  rintro e w2 ⟨rfl, h2⟩
  have B2 := Lib.hid h2; clear h2
  have hsz : w.heap.size ≤ w1.heap.size := B1.out.size
  go_wp2
  go_ret
  exact ⟨rfl, B1.out.trans (B2.out.mono hsz)⟩
end Go.Proofs.YteahjnobnbafiaaDoor
