/-
  The walk of the law FnExactSimplify. No condition.
-/
import Derived.Test.YtnpfnfenkklocaaLawN
import Derived.Test.YtnpfnfenkklocaaSmi
import Derived.Test.YtnpfnfenkklocaaSms
namespace Go.Proofs.Ytnpfnfenkklocaa
open Go.RowKit
open Go Go.Deep

set_option maxRecDepth 100000 in
set_option maxHeartbeats 8000000 in
theorem walk_FnExactSimplify (v0 : Value) (xs : List Nd) (w : World) (h0 : Ns w v0 xs) :
    Calls Try.prog 6 #[v0] w fun e w' => e = .returned (.bool true) ∧ Below w.heap.size w w' := by
  have S0 := fun W (h : Ns W v0 xs) => szNodeS_any v0 xs 1048576 W h (by omega) (by omega)
  by_cases hlen : 1048576 < xs.length
  · rw [if_pos (by omega)] at S0
    have K0 := Lib.hid (S0 w h0)
    clear S0
    go_enter Try.func6, Try.ntmps6
    go_wp2_with fail
    refine K0.out.mono ?_
    rintro e w' ⟨rfl, rfl⟩
    go_wp2
    go_ret
    exact ⟨rfl, Below.refl _ _⟩
  rw [if_neg (by omega)] at S0
  have K0 := Lib.hid (S0 w h0)
  have H0 := Lib.hid h0
  clear S0 h0
  have hn : xs.length ≤ 1048576 := by omega
  have KS := fun u W h => specSimplify_any u xs W h
  have KI := fun u W h => implSimplify_any u xs W h
  have hr : ((simpL xs).getD []).length ≤ 40 := simpL_len xs
  generalize (simpL xs) = r at *
  have KS := Lib.hid KS
  have KI := Lib.hid KI
  go_enter Try.func6, Try.ntmps6
  go_wp2_with fail
  refine K0.out.mono ?_
  rintro e w' ⟨rfl, rfl⟩
  go_wp2_with fail
  refine (toNodeS_any _ xs _ H0.out hn).mono ?_
  rintro e w1 ⟨g1, rfl, ho1, hb1⟩
  have O1 := Lib.hid ho1; have B1 := Lib.hid hb1; clear ho1 hb1
  go_wp2_with fail
  refine (KS.out _ _ (Ns.of_own O1.out)).mono ?_
  rintro e w2 ⟨v2, rfl, ho2, hb2⟩
  have N2 := Lib.hid (Ns.of_own ho2)
  have B2 := Lib.hid (B1.out.trans (hb2.mono B1.out.size)); clear hb2 ho2
  go_wp2_with fail
  refine (toNodeS_any _ xs _ (H0.out.below B2.out (Nat.le_refl _)) hn).mono ?_
  rintro e w3 ⟨g3, rfl, ho3, hb3⟩
  have O3 := Lib.hid ho3; have C3 := Lib.hid hb3; have B3 := Lib.hid (B2.out.trans (hb3.mono B2.out.size)); clear ho3 hb3
  go_wp2_with fail
  refine (KI.out _ _ (Ns.of_own O3.out)).mono ?_
  rintro e w4 ⟨v4, rfl, ho4, hb4⟩
  have O4 := Lib.hid ho4
  have X4 := Lib.hid (own_below O3.out hb4 (Nat.le_refl _))
  have C4 := Lib.hid (C3.out.trans (hb4.mono C3.out.size)); have B4 := Lib.hid (B3.out.trans (hb4.mono B3.out.size)); clear ho4 hb4
  have AP := Lib.hid (own_apart O3.out O4.out (Nat.le_refl _))
  go_wp2_with fail
  refine (eqNodeS_same _ _ _ _ (Ns.of_own O4.out) (N2.out.below C4.out (Nat.le_refl _))).mono ?_
  rintro e w5 ⟨rfl, hb5⟩
  have O5 := Lib.hid (own_below O4.out hb5 (Nat.le_refl _))
  have X5 := Lib.hid (own_below X4.out hb5 (Nat.le_refl _))
  have C5 := Lib.hid (C4.out.trans (hb5.mono C4.out.size)); have B5 := Lib.hid (B4.out.trans (hb5.mono B4.out.size)); clear hb5
  go_wp2_with fail
  refine (toNodeS_any _ xs _ (H0.out.below B5.out (Nat.le_refl _)) hn).mono ?_
  rintro e w6 ⟨g6, rfl, ho6, hb6⟩
  have N6 := Lib.hid (Ns.of_own ho6)
  have O6 := Lib.hid (own_below O5.out hb6 (Nat.le_refl _))
  have X6 := Lib.hid (own_below X5.out hb6 (Nat.le_refl _))
  have C6 := Lib.hid (C5.out.trans (hb6.mono C5.out.size)); have B6 := Lib.hid (B5.out.trans (hb6.mono B5.out.size)); clear ho6 hb6
  go_wp2_with fail
  refine (eqNodeS_same _ _ xs _ (Ns.of_own X6.out) N6.out).mono ?_
  rintro e w7 ⟨rfl, hb7⟩
  have O7 := Lib.hid (own_below O6.out hb7 (Nat.le_refl _))
  have X7 := Lib.hid (own_below X6.out hb7 (Nat.le_refl _))
  have C7 := Lib.hid (C6.out.trans (hb7.mono C6.out.size)); have B7 := Lib.hid (B6.out.trans (hb7.mono B6.out.size)); clear hb7
  go_wp2_with fail
  refine (markNodeS_row w2.heap.size _ xs.length xs 1 _ hn (by omega) (by omega) X7.out).mono ?_
  rintro e w8 ⟨rfl, _, hg8⟩
  have O8 := Lib.hid (O7.out.kept hg8 AP.out)
  have D8 := Lib.hid ((Below.refl w2.heap.size w7).grown hg8 C7.out.size (fun k hk => (X7.out.lt k hk).1))
  have C8 := Lib.hid (C7.out.trans D8.out); have B8 := Lib.hid (B7.out.trans (D8.out.mono B2.out.size)); clear hg8 D8
  go_wp2_with fail
  refine (eqNodeS_same _ _ _ _ (Ns.of_own O8.out) (N2.out.below C8.out (Nat.le_refl _))).mono ?_
  rintro e w9 ⟨rfl, hb9⟩
  have O9 := Lib.hid (own_below O8.out hb9 (Nat.le_refl _))
  have C9 := Lib.hid (C8.out.trans (hb9.mono C8.out.size)); have B9 := Lib.hid (B8.out.trans (hb9.mono B8.out.size)); clear hb9
  go_wp2_with fail
  refine (markNodeS_own w3.heap.size _ _ _ 1 _ (by omega) (by omega) (by omega) O9.out).mono ?_
  rintro e w10 ⟨rfl, ho10, hb10⟩
  have N10 := Lib.hid (Ns.of_own ho10)
  have C10 := Lib.hid (C9.out.trans (hb10.mono C3.out.size)); have B10 := Lib.hid (B9.out.trans (hb10.mono B3.out.size)); clear ho10 hb10
  go_wp2_with fail
  refine (heldNodeS_any _ _ 1 _ (by omega) (by omega) (by omega) N10.out).mono ?_
  rintro e w' ⟨rfl, rfl⟩
  go_wp2_with fail
  refine (toNodeS_any _ xs _ (H0.out.below B10.out (Nat.le_refl _)) hn).mono ?_
  rintro e w11 ⟨g11, rfl, ho11, hb11⟩
  have O11 := Lib.hid ho11
  have N11 := Lib.hid (N10.out.below hb11 (Nat.le_refl _))
  have C11 := Lib.hid (C10.out.trans (hb11.mono C10.out.size)); have B11 := Lib.hid (B10.out.trans (hb11.mono B10.out.size)); clear ho11 hb11
  go_wp2_with fail
  refine (KI.out _ _ (Ns.of_own O11.out)).mono ?_
  rintro e w12 ⟨v12, rfl, ho12, hb12⟩
  have O12 := Lib.hid ho12
  have N12 := Lib.hid (N11.out.below hb12 (Nat.le_refl _))
  have C12 := Lib.hid (C11.out.trans (hb12.mono C11.out.size)); have B12 := Lib.hid (B11.out.trans (hb12.mono B11.out.size)); clear ho12 hb12
  go_wp2_with fail
  refine (eqNodeS_same _ _ _ _ (Ns.of_own O12.out) (N2.out.below C12.out (Nat.le_refl _))).mono ?_
  rintro e w13 ⟨rfl, hb13⟩
  have N13 := Lib.hid (N12.out.below hb13 (Nat.le_refl _))
  have B13 := Lib.hid (B12.out.trans (hb13.mono B12.out.size)); clear hb13
  go_wp2_with fail
  refine (heldNodeS_any _ _ 1 _ (by omega) (by omega) (by omega) N13.out).mono ?_
  rintro e w' ⟨rfl, rfl⟩
  go_wp2
  go_ret
  exact ⟨rfl, B13.out⟩
end Go.Proofs.Ytnpfnfenkklocaa
