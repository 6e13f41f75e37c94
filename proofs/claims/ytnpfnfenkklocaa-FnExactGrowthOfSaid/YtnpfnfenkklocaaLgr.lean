/-
  The walks of the law FnExactGrowthOf. No condition.
-/
import Derived.Test.YtnpfnfenkklocaaLawG
import Derived.Test.YtnpfnfenkklocaaRwi
import Derived.Test.YtnpfnfenkklocaaRwn
namespace Go.Proofs.Ytnpfnfenkklocaa
open Go.RowKit
open Go Go.Deep

set_option maxRecDepth 100000 in
set_option maxHeartbeats 2000000 in
theorem walk_FnExactGrowthOf (v0 : Value) (xs : List Nd) (w : World) (h0 : Ns w v0 xs) :
    Calls Try.prog 5 #[v0] w fun e w' => e = .returned (.bool true) ∧ Below w.heap.size w w' := by
  have S0 := fun W (h : Ns W v0 xs) => szNodeS_any v0 xs 1048576 W h (by omega) (by omega)
  by_cases hlen : 1048576 < xs.length
  · rw [if_pos (by omega)] at S0
    have K0 := Lib.hid (S0 w h0)
    clear S0
    go_enter Try.func5, Try.ntmps5
    go_wp2_with fail
    refine K0.out.mono ?_
    rintro e w' ⟨rfl, rfl⟩
    go_wp2
    go_ret
    exact ⟨rfl, Below.refl _ _⟩
  rw [if_neg (by omega)] at S0
  have K0 := Lib.hid (S0 w h0)
  have H0 := Lib.hid h0
  clear S0 h0
  have hn : xs.length ≤ 1048576 := by omega
  go_enter Try.func5, Try.ntmps5
  go_wp2_with fail
  refine K0.out.mono ?_
  rintro e w' ⟨rfl, rfl⟩
  go_wp2_with fail
  refine (toNodeS_any _ xs _ H0.out hn).mono ?_
  rintro e w1 ⟨g1, rfl, ho1, hb1⟩
  have O1 := Lib.hid ho1; have B1 := Lib.hid hb1; clear ho1 hb1
  go_wp2_with fail
  refine (specGrowthOf_any xs _ _ (Ns.of_own O1.out) hn).mono ?_
  rintro e w2 ⟨rfl, hb2⟩
  have B2 := Lib.hid (B1.out.trans (hb2.mono B1.out.size)); clear hb2
  generalize hfo : growL xs = res
  have HF := Lib.hid hfo
  clear hfo
  go_wp2_with fail
  refine (toNodeS_any _ xs _ (H0.out.below B2.out (Nat.le_refl _)) hn).mono ?_
  rintro e w3 ⟨g3, rfl, ho3, hb3⟩
  have O3 := Lib.hid ho3; have B3 := Lib.hid (B2.out.trans (hb3.mono B2.out.size)); clear ho3 hb3
  go_wp2_with fail
  refine (implGrowthOf_any xs _ _ (Ns.of_own O3.out) hn).mono ?_
  rintro e w4 ⟨rfl, hb4⟩
  have N4 := Lib.hid ((Ns.of_own O3.out).below hb4 (Nat.le_refl _))
  have B4 := Lib.hid (B3.out.trans (hb4.mono B3.out.size)); clear hb4
  rw [HF.out]
  go_wp2_with fail
  refine (toNodeS_any _ xs _ (H0.out.below B4.out (Nat.le_refl _)) hn).mono ?_
  rintro e w5 ⟨g5, rfl, ho5, hb5⟩
  have N5 := Lib.hid (N4.out.below hb5 (Nat.le_refl _))
  have O5 := Lib.hid ho5; have B5 := Lib.hid (B4.out.trans (hb5.mono B4.out.size)); clear ho5 hb5
  go_wp2_with fail
  refine (eqNodeS_same _ _ xs _ N5.out (Ns.of_own O5.out)).mono ?_
  rintro e w6 ⟨rfl, hb6⟩
  have B6 := Lib.hid (B5.out.trans (hb6.mono B5.out.size)); clear hb6
  go_wp2
  go_ret
  exact ⟨rfl, B6.out⟩
end Go.Proofs.Ytnpfnfenkklocaa
