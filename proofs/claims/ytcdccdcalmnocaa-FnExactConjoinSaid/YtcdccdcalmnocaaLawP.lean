/-
  The walks of the laws FnExactConjoin and FnExactAfter. No condition.
-/
import Derived.Test.YtcdccdcalmnocaaLawN
namespace Go.Proofs.Ytcdccdcalmnocaa
open Go.RowKit
open Go Go.Deep

set_option maxRecDepth 100000 in
set_option maxHeartbeats 8000000 in
theorem walk_FnExactConjoin (v0 : Value) (xs : List Nd) (v1 : Value) (ys : List Nd) (w : World) (h0 : Ns w v0 xs) (h1 : Ns w v1 ys) :
    Calls Try.prog 10 #[v0, v1] w fun e w' => e = .returned (.bool true) ∧ Below w.heap.size w w' := by
  have S0 := fun W (h : Ns W v0 xs) => szNodeS_any v0 xs 1048576 W h (by omega) (by omega)
  by_cases hlen : 1048576 < xs.length
  · rw [if_pos (by omega)] at S0
    have K0 := Lib.hid (S0 w h0)
    clear S0
    go_enter Try.func10, Try.ntmps10
    go_wp2_with fail
    refine K0.out.mono ?_
    rintro e w' ⟨rfl, rfl⟩
    go_wp2
    go_ret
    exact ⟨rfl, Below.refl _ _⟩
  rw [if_neg (by omega)] at S0
  have K0 := Lib.hid (S0 w h0)
  have H0 := Lib.hid h0
  have H1 := Lib.hid h1
  clear S0 h0
  have hn : xs.length ≤ 1048576 := by omega
  have S1 := szNodeS_any v1 ys (1048576 - xs.length) w h1 (by omega) (by omega)
  by_cases hlen2 : (1048576 : Int) - xs.length - ys.length < 0
  · rw [if_pos hlen2] at S1
    have K1 := Lib.hid S1
    clear S1 h1
    go_enter Try.func10, Try.ntmps10
    go_wp2_with fail
    refine K0.out.mono ?_
    rintro e w' ⟨rfl, rfl⟩
    go_wp2_with fail
    refine K1.out.mono ?_
    rintro e w' ⟨rfl, rfl⟩
    go_wp2
    go_ret
    exact ⟨rfl, Below.refl _ _⟩
  rw [if_neg hlen2] at S1
  have K1 := Lib.hid S1
  clear S1 h1
  have hm : ys.length ≤ 1048576 := by omega
  have hnm : xs.length + ys.length ≤ 1048576 := by omega
  have KS := fun u v W h h' => specConjoin_any u v xs ys W h h'
  have KI := fun u v W h h' => implConjoin_any u v xs ys W h h'
  have hr : ((if formOk xs && formOk ys then combL (Tm.joint 4 (termOfL xs) (termOfL ys)) else none).getD []).length ≤ 40 := ite_len
  generalize (if formOk xs && formOk ys then combL (Tm.joint 4 (termOfL xs) (termOfL ys)) else none) = r at *
  have KS := Lib.hid KS
  have KI := Lib.hid KI
  go_enter Try.func10, Try.ntmps10
  go_wp2_with fail
  refine K0.out.mono ?_
  rintro e w' ⟨rfl, rfl⟩
  go_wp2_with fail
  refine K1.out.mono ?_
  rintro e w' ⟨rfl, rfl⟩
  go_wp2_with fail
  refine (toNodeS_any _ xs _ H0.out hn).mono ?_
  rintro e w1 ⟨g1, rfl, ho1, hb1⟩
  have O1 := Lib.hid ho1; have B1 := Lib.hid hb1; clear ho1 hb1
  go_wp2_with fail
  refine (toNodeS_any _ ys _ (H1.out.below B1.out (Nat.le_refl _)) hm).mono ?_
  rintro e u1 ⟨i1, rfl, ho1, hb1⟩
  have P1 := Lib.hid (Ns.of_own ho1)
  have N1 := Lib.hid ((Ns.of_own O1.out).below hb1 (Nat.le_refl _))
  have A1 := Lib.hid (B1.out.trans (hb1.mono B1.out.size)); clear ho1 hb1
  go_wp2_with fail
  refine (KS.out _ _ _ N1.out P1.out).mono ?_
  rintro e w2 ⟨v2, rfl, ho2, hb2⟩
  have N2 := Lib.hid (Ns.of_own ho2)
  have B2 := Lib.hid (A1.out.trans (hb2.mono A1.out.size)); clear hb2 ho2
  go_wp2_with fail
  refine (toNodeS_any _ xs _ (H0.out.below B2.out (Nat.le_refl _)) hn).mono ?_
  rintro e w3 ⟨g3, rfl, ho3, hb3⟩
  have O3 := Lib.hid ho3; have C3 := Lib.hid hb3; have B3 := Lib.hid (B2.out.trans (hb3.mono B2.out.size)); clear ho3 hb3
  go_wp2_with fail
  refine (toNodeS_any _ ys _ (H1.out.below B3.out (Nat.le_refl _)) hm).mono ?_
  rintro e u3 ⟨i3, rfl, ho3, hb3⟩
  have sz1 := hb3.size
  have Q3 := Lib.hid ho3
  have Y3 := Lib.hid (own_below O3.out hb3 (Nat.le_refl _))
  have AQ := Lib.hid (own_apart O3.out Q3.out (Nat.le_refl _))
  have D3 := Lib.hid (C3.out.trans (hb3.mono C3.out.size)); have A3 := Lib.hid (B3.out.trans (hb3.mono B3.out.size)); clear ho3 hb3
  go_wp2_with fail
  refine (KI.out _ _ _ (Ns.of_own Y3.out) (Ns.of_own Q3.out)).mono ?_
  rintro e w4 ⟨v4, rfl, ho4, hb4⟩
  have sz2 := hb4.size
  have O4 := Lib.hid ho4
  have X4 := Lib.hid (own_below Y3.out hb4 (Nat.le_refl _))
  have Q4 := Lib.hid (own_below Q3.out hb4 (Nat.le_refl _))
  have C4 := Lib.hid (D3.out.trans (hb4.mono D3.out.size)); have B4 := Lib.hid (A3.out.trans (hb4.mono A3.out.size)); clear ho4 hb4
  have AP := Lib.hid (own_apart Y3.out O4.out (Nat.le_refl _))
  have AR := Lib.hid (own_apart Q3.out O4.out (Nat.le_refl _))
  go_wp2_with fail
  refine (eqNodeS_same _ _ _ _ (Ns.of_own O4.out) (N2.out.below C4.out (Nat.le_refl _))).mono ?_
  rintro e w5 ⟨rfl, hb5⟩
  have sz3 := hb5.size
  have O5 := Lib.hid (own_below O4.out hb5 (Nat.le_refl _))
  have X5 := Lib.hid (own_below X4.out hb5 (Nat.le_refl _))
  have Q5 := Lib.hid (own_below Q4.out hb5 (Nat.le_refl _))
  have C5 := Lib.hid (C4.out.trans (hb5.mono C4.out.size)); have B5 := Lib.hid (B4.out.trans (hb5.mono B4.out.size)); clear hb5
  go_wp2_with fail
  refine (toNodeS_any _ xs _ (H0.out.below B5.out (Nat.le_refl _)) hn).mono ?_
  rintro e w6 ⟨g6, rfl, ho6, hb6⟩
  have sz4 := hb6.size
  have N6 := Lib.hid (Ns.of_own ho6)
  have O6 := Lib.hid (own_below O5.out hb6 (Nat.le_refl _))
  have X6 := Lib.hid (own_below X5.out hb6 (Nat.le_refl _))
  have Q6 := Lib.hid (own_below Q5.out hb6 (Nat.le_refl _))
  have C6 := Lib.hid (C5.out.trans (hb6.mono C5.out.size)); have B6 := Lib.hid (B5.out.trans (hb6.mono B5.out.size)); clear ho6 hb6
  go_wp2_with fail
  refine (eqNodeS_same _ _ xs _ (Ns.of_own X6.out) N6.out).mono ?_
  rintro e w7 ⟨rfl, hb7⟩
  have sz5 := hb7.size
  have O7 := Lib.hid (own_below O6.out hb7 (Nat.le_refl _))
  have X7 := Lib.hid (own_below X6.out hb7 (Nat.le_refl _))
  have Q7 := Lib.hid (own_below Q6.out hb7 (Nat.le_refl _))
  have C7 := Lib.hid (C6.out.trans (hb7.mono C6.out.size)); have B7 := Lib.hid (B6.out.trans (hb7.mono B6.out.size)); clear hb7
  go_wp2_with fail
  refine (toNodeS_any _ ys _ (H1.out.below B7.out (Nat.le_refl _)) hm).mono ?_
  rintro e y6 ⟨j6, rfl, ho6, hb6⟩
  have sz6 := hb6.size
  have M6 := Lib.hid (Ns.of_own ho6)
  have O6' := Lib.hid (own_below O7.out hb6 (Nat.le_refl _))
  have X6' := Lib.hid (own_below X7.out hb6 (Nat.le_refl _))
  have Q6' := Lib.hid (own_below Q7.out hb6 (Nat.le_refl _))
  have C6' := Lib.hid (C7.out.trans (hb6.mono C7.out.size)); have B6' := Lib.hid (B7.out.trans (hb6.mono B7.out.size)); clear ho6 hb6
  go_wp2_with fail
  refine (eqNodeS_same _ _ ys _ (Ns.of_own Q6'.out) M6.out).mono ?_
  rintro e y7 ⟨rfl, hb7⟩
  have sz7 := hb7.size
  have O7' := Lib.hid (own_below O6'.out hb7 (Nat.le_refl _))
  have X7' := Lib.hid (own_below X6'.out hb7 (Nat.le_refl _))
  have Q7' := Lib.hid (own_below Q6'.out hb7 (Nat.le_refl _))
  have C7' := Lib.hid (C6'.out.trans (hb7.mono C6'.out.size)); have B7' := Lib.hid (B6'.out.trans (hb7.mono B6'.out.size)); clear hb7
  go_wp2_with fail
  refine (markNodeS_row w2.heap.size _ xs.length xs 1 _ hn (by omega) (by omega) X7'.out).mono ?_
  rintro e w8 ⟨rfl, _, hg8⟩
  have sz8 := hg8.size
  have O8 := Lib.hid (O7'.out.kept hg8 AP.out)
  have Q8 := Lib.hid (Q7'.out.kept hg8 AQ.out)
  have D8 := Lib.hid ((Below.refl w2.heap.size y7).grown hg8 C7'.out.size (fun k hk => (X7'.out.lt k hk).1))
  have C8 := Lib.hid (C7'.out.trans D8.out); have B8 := Lib.hid (B7'.out.trans (D8.out.mono B2.out.size)); clear hg8 D8
  have hk1 : 1 + xs.length * 4 ≤ 4194400 := by omega
  have hk0 : 0 < 1 + xs.length * 4 := by omega
  have KM := Lib.hid (markNodeS_row w3.heap.size _ ys.length ys (1 + xs.length * 4) w8 hm hk0 hk1 Q8.out)
  generalize hkk : 1 + xs.length * 4 = kk at *
  have hkk' : ((kk : Nat) : Int) = 1 + (xs.length : Int) * 4 := by omega
  have hkp : (0 : Int) ≤ (kk : Int) := Int.natCast_nonneg _
  clear hkk hkk'
  go_wp2_with fail
  refine KM.out.mono ?_
  rintro e z8 ⟨rfl, _, hg8⟩
  have O8' := Lib.hid (O8.out.kept hg8 AR.out)
  have D8 := Lib.hid ((Below.refl w3.heap.size w8).grown hg8 (by omega) (fun k hk => (Q8.out.lt k hk).1))
  have C8' := Lib.hid (C8.out.trans (D8.out.mono C3.out.size)); have B8' := Lib.hid (B8.out.trans (D8.out.mono B3.out.size)); clear hg8 D8
  have hkq : (0 : Int) ≤ ((kk + ys.length * 4 : Nat) : Int) := Int.natCast_nonneg _
  generalize kk + ys.length * 4 = kq at *
  go_wp2_with fail
  refine (eqNodeS_same _ _ _ _ (Ns.of_own O8'.out) (N2.out.below C8'.out (Nat.le_refl _))).mono ?_
  rintro e w9 ⟨rfl, hb9⟩
  have O9 := Lib.hid (own_below O8'.out hb9 (Nat.le_refl _))
  have C9 := Lib.hid (C8'.out.trans (hb9.mono C8'.out.size)); have B9 := Lib.hid (B8'.out.trans (hb9.mono B8'.out.size)); clear hb9
  go_wp2_with fail
  refine (markNodeS_own u3.heap.size _ _ _ 1 _ (by omega) (by omega) (by omega) O9.out).mono ?_
  rintro e w10 ⟨rfl, ho10, hb10⟩
  have N10 := Lib.hid (Ns.of_own ho10)
  have C10 := Lib.hid (C9.out.trans (hb10.mono D3.out.size)); have B10 := Lib.hid (B9.out.trans (hb10.mono A3.out.size)); clear ho10 hb10
  go_wp2_with fail
  refine (heldNodeS_any _ _ 1 _ (by omega) (by omega) (by omega) N10.out).mono ?_
  rintro e w' ⟨rfl, rfl⟩
  go_wp2_with fail
  refine (toNodeS_any _ xs _ (H0.out.below B10.out (Nat.le_refl _)) hn).mono ?_
  rintro e w11 ⟨g11, rfl, ho11, hb11⟩
  have O11 := Lib.hid ho11
  have N11 := Lib.hid (N10.out.below hb11 (Nat.le_refl _))
  have C11 := Lib.hid (C10.out.trans (hb11.mono C10.out.size)); have B11 := Lib.hid (B10.out.trans (hb11.mono B10.out.size)); clear ho11 hb11
  go_wp2_with fail
  refine (toNodeS_any _ ys _ (H1.out.below B11.out (Nat.le_refl _)) hm).mono ?_
  rintro e y11 ⟨j11, rfl, ho11, hb11⟩
  have P11 := Lib.hid (Ns.of_own ho11)
  have R11 := Lib.hid ((Ns.of_own O11.out).below hb11 (Nat.le_refl _))
  have N11' := Lib.hid (N11.out.below hb11 (Nat.le_refl _))
  have C11' := Lib.hid (C11.out.trans (hb11.mono C11.out.size)); have B11' := Lib.hid (B11.out.trans (hb11.mono B11.out.size)); clear ho11 hb11
  go_wp2_with fail
  refine (KI.out _ _ _ R11.out P11.out).mono ?_
  rintro e w12 ⟨v12, rfl, ho12, hb12⟩
  have O12 := Lib.hid ho12
  have N12 := Lib.hid (N11'.out.below hb12 (Nat.le_refl _))
  have C12 := Lib.hid (C11'.out.trans (hb12.mono C11'.out.size)); have B12 := Lib.hid (B11'.out.trans (hb12.mono B11'.out.size)); clear ho12 hb12
  go_wp2_with fail
  refine (eqNodeS_same _ _ _ _ (Ns.of_own O12.out) (N2.out.below C12.out (Nat.le_refl _))).mono ?_
  rintro e w13 ⟨rfl, hb13⟩
  have N13 := Lib.hid (N12.out.below hb13 (Nat.le_refl _))
  have B13 := Lib.hid (B12.out.trans (hb13.mono B12.out.size)); clear hb13
  go_wp2_with fail
  refine (heldNodeS_any _ _ 1 _ (by omega) (by omega) (by omega) N13.out).mono ?_
  rintro e w' ⟨rfl, rfl⟩
  go_wp2
  go_ret
  exact ⟨rfl, B13.out⟩

set_option maxRecDepth 100000 in
set_option maxHeartbeats 8000000 in
theorem walk_FnExactAfter (v0 : Value) (xs : List Nd) (v1 : Value) (ys : List Nd) (w : World) (h0 : Ns w v0 xs) (h1 : Ns w v1 ys) :
    Calls Try.prog 12 #[v0, v1] w fun e w' => e = .returned (.bool true) ∧ Below w.heap.size w w' := by
  have S0 := fun W (h : Ns W v0 xs) => szNodeS_any v0 xs 1048576 W h (by omega) (by omega)
  by_cases hlen : 1048576 < xs.length
  · rw [if_pos (by omega)] at S0
    have K0 := Lib.hid (S0 w h0)
    clear S0
    go_enter Try.func12, Try.ntmps12
    go_wp2_with fail
    refine K0.out.mono ?_
    rintro e w' ⟨rfl, rfl⟩
    go_wp2
    go_ret
    exact ⟨rfl, Below.refl _ _⟩
  rw [if_neg (by omega)] at S0
  have K0 := Lib.hid (S0 w h0)
  have H0 := Lib.hid h0
  have H1 := Lib.hid h1
  clear S0 h0
  have hn : xs.length ≤ 1048576 := by omega
  have S1 := szNodeS_any v1 ys (1048576 - xs.length) w h1 (by omega) (by omega)
  by_cases hlen2 : (1048576 : Int) - xs.length - ys.length < 0
  · rw [if_pos hlen2] at S1
    have K1 := Lib.hid S1
    clear S1 h1
    go_enter Try.func12, Try.ntmps12
    go_wp2_with fail
    refine K0.out.mono ?_
    rintro e w' ⟨rfl, rfl⟩
    go_wp2_with fail
    refine K1.out.mono ?_
    rintro e w' ⟨rfl, rfl⟩
    go_wp2
    go_ret
    exact ⟨rfl, Below.refl _ _⟩
  rw [if_neg hlen2] at S1
  have K1 := Lib.hid S1
  clear S1 h1
  have hm : ys.length ≤ 1048576 := by omega
  have hnm : xs.length + ys.length ≤ 1048576 := by omega
  have KS := fun u v W h h' => specAfter_any u v xs ys W h h'
  have KI := fun u v W h h' => implAfter_any u v xs ys W h h'
  have hr : ((if formOk xs && formOk ys then combL (Tm.joint 9 (termOfL xs) (termOfL ys)) else none).getD []).length ≤ 40 := ite_len
  generalize (if formOk xs && formOk ys then combL (Tm.joint 9 (termOfL xs) (termOfL ys)) else none) = r at *
  have KS := Lib.hid KS
  have KI := Lib.hid KI
  go_enter Try.func12, Try.ntmps12
  go_wp2_with fail
  refine K0.out.mono ?_
  rintro e w' ⟨rfl, rfl⟩
  go_wp2_with fail
  refine K1.out.mono ?_
  rintro e w' ⟨rfl, rfl⟩
  go_wp2_with fail
  refine (toNodeS_any _ xs _ H0.out hn).mono ?_
  rintro e w1 ⟨g1, rfl, ho1, hb1⟩
  have O1 := Lib.hid ho1; have B1 := Lib.hid hb1; clear ho1 hb1
  go_wp2_with fail
  refine (toNodeS_any _ ys _ (H1.out.below B1.out (Nat.le_refl _)) hm).mono ?_
  rintro e u1 ⟨i1, rfl, ho1, hb1⟩
  have P1 := Lib.hid (Ns.of_own ho1)
  have N1 := Lib.hid ((Ns.of_own O1.out).below hb1 (Nat.le_refl _))
  have A1 := Lib.hid (B1.out.trans (hb1.mono B1.out.size)); clear ho1 hb1
  go_wp2_with fail
  refine (KS.out _ _ _ N1.out P1.out).mono ?_
  rintro e w2 ⟨v2, rfl, ho2, hb2⟩
  have N2 := Lib.hid (Ns.of_own ho2)
  have B2 := Lib.hid (A1.out.trans (hb2.mono A1.out.size)); clear hb2 ho2
  go_wp2_with fail
  refine (toNodeS_any _ xs _ (H0.out.below B2.out (Nat.le_refl _)) hn).mono ?_
  rintro e w3 ⟨g3, rfl, ho3, hb3⟩
  have O3 := Lib.hid ho3; have C3 := Lib.hid hb3; have B3 := Lib.hid (B2.out.trans (hb3.mono B2.out.size)); clear ho3 hb3
  go_wp2_with fail
  refine (toNodeS_any _ ys _ (H1.out.below B3.out (Nat.le_refl _)) hm).mono ?_
  rintro e u3 ⟨i3, rfl, ho3, hb3⟩
  have sz1 := hb3.size
  have Q3 := Lib.hid ho3
  have Y3 := Lib.hid (own_below O3.out hb3 (Nat.le_refl _))
  have AQ := Lib.hid (own_apart O3.out Q3.out (Nat.le_refl _))
  have D3 := Lib.hid (C3.out.trans (hb3.mono C3.out.size)); have A3 := Lib.hid (B3.out.trans (hb3.mono B3.out.size)); clear ho3 hb3
  go_wp2_with fail
  refine (KI.out _ _ _ (Ns.of_own Y3.out) (Ns.of_own Q3.out)).mono ?_
  rintro e w4 ⟨v4, rfl, ho4, hb4⟩
  have sz2 := hb4.size
  have O4 := Lib.hid ho4
  have X4 := Lib.hid (own_below Y3.out hb4 (Nat.le_refl _))
  have Q4 := Lib.hid (own_below Q3.out hb4 (Nat.le_refl _))
  have C4 := Lib.hid (D3.out.trans (hb4.mono D3.out.size)); have B4 := Lib.hid (A3.out.trans (hb4.mono A3.out.size)); clear ho4 hb4
  have AP := Lib.hid (own_apart Y3.out O4.out (Nat.le_refl _))
  have AR := Lib.hid (own_apart Q3.out O4.out (Nat.le_refl _))
  go_wp2_with fail
  refine (eqNodeS_same _ _ _ _ (Ns.of_own O4.out) (N2.out.below C4.out (Nat.le_refl _))).mono ?_
  rintro e w5 ⟨rfl, hb5⟩
  have sz3 := hb5.size
  have O5 := Lib.hid (own_below O4.out hb5 (Nat.le_refl _))
  have X5 := Lib.hid (own_below X4.out hb5 (Nat.le_refl _))
  have Q5 := Lib.hid (own_below Q4.out hb5 (Nat.le_refl _))
  have C5 := Lib.hid (C4.out.trans (hb5.mono C4.out.size)); have B5 := Lib.hid (B4.out.trans (hb5.mono B4.out.size)); clear hb5
  go_wp2_with fail
  refine (toNodeS_any _ xs _ (H0.out.below B5.out (Nat.le_refl _)) hn).mono ?_
  rintro e w6 ⟨g6, rfl, ho6, hb6⟩
  have sz4 := hb6.size
  have N6 := Lib.hid (Ns.of_own ho6)
  have O6 := Lib.hid (own_below O5.out hb6 (Nat.le_refl _))
  have X6 := Lib.hid (own_below X5.out hb6 (Nat.le_refl _))
  have Q6 := Lib.hid (own_below Q5.out hb6 (Nat.le_refl _))
  have C6 := Lib.hid (C5.out.trans (hb6.mono C5.out.size)); have B6 := Lib.hid (B5.out.trans (hb6.mono B5.out.size)); clear ho6 hb6
  go_wp2_with fail
  refine (eqNodeS_same _ _ xs _ (Ns.of_own X6.out) N6.out).mono ?_
  rintro e w7 ⟨rfl, hb7⟩
  have sz5 := hb7.size
  have O7 := Lib.hid (own_below O6.out hb7 (Nat.le_refl _))
  have X7 := Lib.hid (own_below X6.out hb7 (Nat.le_refl _))
  have Q7 := Lib.hid (own_below Q6.out hb7 (Nat.le_refl _))
  have C7 := Lib.hid (C6.out.trans (hb7.mono C6.out.size)); have B7 := Lib.hid (B6.out.trans (hb7.mono B6.out.size)); clear hb7
  go_wp2_with fail
  refine (toNodeS_any _ ys _ (H1.out.below B7.out (Nat.le_refl _)) hm).mono ?_
  rintro e y6 ⟨j6, rfl, ho6, hb6⟩
  have sz6 := hb6.size
  have M6 := Lib.hid (Ns.of_own ho6)
  have O6' := Lib.hid (own_below O7.out hb6 (Nat.le_refl _))
  have X6' := Lib.hid (own_below X7.out hb6 (Nat.le_refl _))
  have Q6' := Lib.hid (own_below Q7.out hb6 (Nat.le_refl _))
  have C6' := Lib.hid (C7.out.trans (hb6.mono C7.out.size)); have B6' := Lib.hid (B7.out.trans (hb6.mono B7.out.size)); clear ho6 hb6
  go_wp2_with fail
  refine (eqNodeS_same _ _ ys _ (Ns.of_own Q6'.out) M6.out).mono ?_
  rintro e y7 ⟨rfl, hb7⟩
  have sz7 := hb7.size
  have O7' := Lib.hid (own_below O6'.out hb7 (Nat.le_refl _))
  have X7' := Lib.hid (own_below X6'.out hb7 (Nat.le_refl _))
  have Q7' := Lib.hid (own_below Q6'.out hb7 (Nat.le_refl _))
  have C7' := Lib.hid (C6'.out.trans (hb7.mono C6'.out.size)); have B7' := Lib.hid (B6'.out.trans (hb7.mono B6'.out.size)); clear hb7
  go_wp2_with fail
  refine (markNodeS_row w2.heap.size _ xs.length xs 1 _ hn (by omega) (by omega) X7'.out).mono ?_
  rintro e w8 ⟨rfl, _, hg8⟩
  have sz8 := hg8.size
  have O8 := Lib.hid (O7'.out.kept hg8 AP.out)
  have Q8 := Lib.hid (Q7'.out.kept hg8 AQ.out)
  have D8 := Lib.hid ((Below.refl w2.heap.size y7).grown hg8 C7'.out.size (fun k hk => (X7'.out.lt k hk).1))
  have C8 := Lib.hid (C7'.out.trans D8.out); have B8 := Lib.hid (B7'.out.trans (D8.out.mono B2.out.size)); clear hg8 D8
  have hk1 : 1 + xs.length * 4 ≤ 4194400 := by omega
  have hk0 : 0 < 1 + xs.length * 4 := by omega
  have KM := Lib.hid (markNodeS_row w3.heap.size _ ys.length ys (1 + xs.length * 4) w8 hm hk0 hk1 Q8.out)
  generalize hkk : 1 + xs.length * 4 = kk at *
  have hkk' : ((kk : Nat) : Int) = 1 + (xs.length : Int) * 4 := by omega
  have hkp : (0 : Int) ≤ (kk : Int) := Int.natCast_nonneg _
  clear hkk hkk'
  go_wp2_with fail
  refine KM.out.mono ?_
  rintro e z8 ⟨rfl, _, hg8⟩
  have O8' := Lib.hid (O8.out.kept hg8 AR.out)
  have D8 := Lib.hid ((Below.refl w3.heap.size w8).grown hg8 (by omega) (fun k hk => (Q8.out.lt k hk).1))
  have C8' := Lib.hid (C8.out.trans (D8.out.mono C3.out.size)); have B8' := Lib.hid (B8.out.trans (D8.out.mono B3.out.size)); clear hg8 D8
  have hkq : (0 : Int) ≤ ((kk + ys.length * 4 : Nat) : Int) := Int.natCast_nonneg _
  generalize kk + ys.length * 4 = kq at *
  go_wp2_with fail
  refine (eqNodeS_same _ _ _ _ (Ns.of_own O8'.out) (N2.out.below C8'.out (Nat.le_refl _))).mono ?_
  rintro e w9 ⟨rfl, hb9⟩
  have O9 := Lib.hid (own_below O8'.out hb9 (Nat.le_refl _))
  have C9 := Lib.hid (C8'.out.trans (hb9.mono C8'.out.size)); have B9 := Lib.hid (B8'.out.trans (hb9.mono B8'.out.size)); clear hb9
  go_wp2_with fail
  refine (markNodeS_own u3.heap.size _ _ _ 1 _ (by omega) (by omega) (by omega) O9.out).mono ?_
  rintro e w10 ⟨rfl, ho10, hb10⟩
  have N10 := Lib.hid (Ns.of_own ho10)
  have C10 := Lib.hid (C9.out.trans (hb10.mono D3.out.size)); have B10 := Lib.hid (B9.out.trans (hb10.mono A3.out.size)); clear ho10 hb10
  go_wp2_with fail
  refine (heldNodeS_any _ _ 1 _ (by omega) (by omega) (by omega) N10.out).mono ?_
  rintro e w' ⟨rfl, rfl⟩
  go_wp2_with fail
  refine (toNodeS_any _ xs _ (H0.out.below B10.out (Nat.le_refl _)) hn).mono ?_
  rintro e w11 ⟨g11, rfl, ho11, hb11⟩
  have O11 := Lib.hid ho11
  have N11 := Lib.hid (N10.out.below hb11 (Nat.le_refl _))
  have C11 := Lib.hid (C10.out.trans (hb11.mono C10.out.size)); have B11 := Lib.hid (B10.out.trans (hb11.mono B10.out.size)); clear ho11 hb11
  go_wp2_with fail
  refine (toNodeS_any _ ys _ (H1.out.below B11.out (Nat.le_refl _)) hm).mono ?_
  rintro e y11 ⟨j11, rfl, ho11, hb11⟩
  have P11 := Lib.hid (Ns.of_own ho11)
  have R11 := Lib.hid ((Ns.of_own O11.out).below hb11 (Nat.le_refl _))
  have N11' := Lib.hid (N11.out.below hb11 (Nat.le_refl _))
  have C11' := Lib.hid (C11.out.trans (hb11.mono C11.out.size)); have B11' := Lib.hid (B11.out.trans (hb11.mono B11.out.size)); clear ho11 hb11
  go_wp2_with fail
  refine (KI.out _ _ _ R11.out P11.out).mono ?_
  rintro e w12 ⟨v12, rfl, ho12, hb12⟩
  have O12 := Lib.hid ho12
  have N12 := Lib.hid (N11'.out.below hb12 (Nat.le_refl _))
  have C12 := Lib.hid (C11'.out.trans (hb12.mono C11'.out.size)); have B12 := Lib.hid (B11'.out.trans (hb12.mono B11'.out.size)); clear ho12 hb12
  go_wp2_with fail
  refine (eqNodeS_same _ _ _ _ (Ns.of_own O12.out) (N2.out.below C12.out (Nat.le_refl _))).mono ?_
  rintro e w13 ⟨rfl, hb13⟩
  have N13 := Lib.hid (N12.out.below hb13 (Nat.le_refl _))
  have B13 := Lib.hid (B12.out.trans (hb13.mono B12.out.size)); clear hb13
  go_wp2_with fail
  refine (heldNodeS_any _ _ 1 _ (by omega) (by omega) (by omega) N13.out).mono ?_
  rintro e w' ⟨rfl, rfl⟩
  go_wp2
  go_ret
  exact ⟨rfl, B13.out⟩
end Go.Proofs.Ytcdccdcalmnocaa
