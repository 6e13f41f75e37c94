/-
  Contracts of SameFormula of both sides and the walk of the law FnExactSameFormula. No condition.
-/
import Derived.Test.YtcdccdcalmnocaaTexts
namespace Go.Proofs.Ytcdccdcalmnocaa
open Go.RowKit
open Go Go.Deep

def sameL (xs ys : List Nd) : Bool := formOk xs && formOk ys && ((textL xs).toList == (textL ys).toList)
theorem textL_no {xs : List Nd} (h : formOk xs = false) : textL xs = ByteArray.mk #[] := by unfold textL; rw [h]; rfl
theorem textL_yes {xs : List Nd} (h : formOk xs = true) : (textL xs).toList.isEmpty = false := by
  unfold textL
  rw [if_pos h]
  have h1 := (txt_len (termOfL xs)).1
  have h2 := (termOfL xs).size_pos
  have e : (str (txt (termOfL xs))).toList = txt (termOfL xs) := by simp [str]
  rw [e]
  cases ht : txt (termOfL xs) with
  | nil => rw [ht] at h1; simp at h1; omega
  | cons a l => rfl

set_option maxHeartbeats 2000000 in
theorem specSame_any (u v : Value) (xs ys : List Nd) (w : World) (hu : Ns w u xs) (hv : Ns w v ys) :
    Calls Try.prog 24 #[u, v] w fun e w' => e = .returned (.bool (sameL xs ys)) ∧ Below w.heap.size w w' := by
  have K1 := Lib.hid (fun W (h : Below w.heap.size w W) => specOk_any u xs W (hu.below h (Nat.le_refl _)))
  have K2 := Lib.hid (fun W (h : Below w.heap.size w W) => specOk_any v ys W (hv.below h (Nat.le_refl _)))
  have K3 := Lib.hid (fun W (h : Below w.heap.size w W) => specFormat2_any xs u W (hu.below h (Nat.le_refl _)))
  have K4 := Lib.hid (fun W (h : Below w.heap.size w W) => specFormat2_any ys v W (hv.below h (Nat.le_refl _)))
  clear hu hv
  unfold sameL
  generalize textL xs = s at *
  generalize textL ys = t at *
  cases hx : formOk xs with
  | false =>
    rw [hx] at K1
    clear hx
    go_enter Try.func24, Try.ntmps24
    go_wp2_with fail
    refine (K1.out _ (Below.refl _ _)).mono ?_
    rintro e w1 ⟨rfl, hb1⟩
    have B1 := Lib.hid hb1; clear hb1
    go_wp2
    go_ret
    exact ⟨rfl, B1.out⟩
  | true =>
    rw [hx] at K1
    clear hx
    cases hy : formOk ys with
    | false =>
      rw [hy] at K2
      clear hy
      go_enter Try.func24, Try.ntmps24
      go_wp2_with fail
      refine (K1.out _ (Below.refl _ _)).mono ?_
      rintro e w1 ⟨rfl, hb1⟩
      have B1 := Lib.hid hb1; clear hb1
      go_wp2_with fail
      refine (K2.out _ B1.out).mono ?_
      rintro e w2 ⟨rfl, hb2⟩
      have B2 := Lib.hid (B1.out.trans (hb2.mono B1.out.size)); clear hb2
      go_wp2
      go_ret
      exact ⟨rfl, B2.out⟩
    | true =>
      rw [hy] at K2
      clear hy
      go_enter Try.func24, Try.ntmps24
      go_wp2_with fail
      refine (K1.out _ (Below.refl _ _)).mono ?_
      rintro e w1 ⟨rfl, hb1⟩
      have B1 := Lib.hid hb1; clear hb1
      go_wp2_with fail
      refine (K2.out _ B1.out).mono ?_
      rintro e w2 ⟨rfl, hb2⟩
      have B2 := Lib.hid (B1.out.trans (hb2.mono B1.out.size)); clear hb2
      go_wp2_with fail
      refine (K3.out _ B2.out).mono ?_
      rintro e w3 ⟨rfl, hb3⟩
      have B3 := Lib.hid (B2.out.trans (hb3.mono B2.out.size)); clear hb3
      go_wp2_with fail
      refine (K4.out _ B3.out).mono ?_
      rintro e w4 ⟨rfl, hb4⟩
      have B4 := Lib.hid (B3.out.trans (hb4.mono B3.out.size)); clear hb4
      go_wp2
      go_ret
      exact ⟨rfl, B4.out⟩

set_option maxHeartbeats 2000000 in
theorem implSame_any (u v : Value) (xs ys : List Nd) (w : World) (hu : Ns w u xs) (hv : Ns w v ys) :
    Calls Try.prog 25 #[u, v] w fun e w' => e = .returned (.bool (sameL xs ys)) ∧ Below w.heap.size w w' := by
  have K3 := Lib.hid (fun W (h : Below w.heap.size w W) => implFormat_any xs u W (hu.below h (Nat.le_refl _)))
  have K4 := Lib.hid (fun W (h : Below w.heap.size w W) => implFormat_any ys v W (hv.below h (Nat.le_refl _)))
  clear hu hv
  unfold sameL
  cases hx : formOk xs with
  | false =>
    rw [textL_no hx] at K3 ⊢
    clear hx
    go_enter Try.func25, Try.ntmps25
    go_wp2_with fail
    refine (K3.out _ (Below.refl _ _)).mono ?_
    rintro e w1 ⟨rfl, hb1⟩
    have B1 := Lib.hid hb1; clear hb1
    go_wp2
    go_ret
    exact ⟨rfl, B1.out⟩
  | true =>
    have hs := textL_yes hx
    clear hx
    generalize textL xs = s at *
    have hs' : ¬ s.toList = [] := fun h => by rw [h] at hs; cases hs
    cases hy : formOk ys with
    | false =>
      rw [textL_no hy] at K4 ⊢
      clear hy
      go_enter Try.func25, Try.ntmps25
      go_wp2_with fail
      refine (K3.out _ (Below.refl _ _)).mono ?_
      rintro e w1 ⟨rfl, hb1⟩
      have B1 := Lib.hid hb1; clear hb1
      go_wp2_with fail
      refine (K4.out _ B1.out).mono ?_
      rintro e w2 ⟨rfl, hb2⟩
      have B2 := Lib.hid (B1.out.trans (hb2.mono B1.out.size)); clear hb2
      go_wp2
      go_ret
      exact ⟨ret_bool (by simp), B2.out⟩
    | true =>
      clear hy
      generalize textL ys = t at *
      go_enter Try.func25, Try.ntmps25
      go_wp2_with fail
      refine (K3.out _ (Below.refl _ _)).mono ?_
      rintro e w1 ⟨rfl, hb1⟩
      have B1 := Lib.hid hb1; clear hb1
      go_wp2_with fail
      refine (K4.out _ B1.out).mono ?_
      rintro e w2 ⟨rfl, hb2⟩
      have B2 := Lib.hid (B1.out.trans (hb2.mono B1.out.size)); clear hb2
      go_wp2
      go_ret
      exact ⟨rfl, B2.out⟩

set_option maxRecDepth 100000 in
set_option maxHeartbeats 4000000 in
theorem walk_FnExactSameFormula (v0 : Value) (xs : List Nd) (v1 : Value) (ys : List Nd) (w : World) (h0 : Ns w v0 xs) (h1 : Ns w v1 ys) :
    Calls Try.prog 6 #[v0, v1] w fun e w' => e = .returned (.bool true) ∧ Below w.heap.size w w' := by
  have S0 := fun W (h : Ns W v0 xs) => szNodeS_any v0 xs 1048576 W h (by omega) (by omega)
  by_cases hlen : 1048576 < xs.length
  · rw [if_pos (by omega)] at S0
    have K0 := Lib.hid (S0 w h0)
    clear S0
    go_enter Try.func6, Try.ntmps6
    go_wp2_with fail
    refine K0.out.mono ?_
    rintro e w' ⟨rfl, rfl⟩
    go_wp2
    go_ret
    exact ⟨rfl, Below.refl _ _⟩
  rw [if_neg (by omega)] at S0
  have K0 := Lib.hid (S0 w h0)
  have H0 := Lib.hid h0
  have H1 := Lib.hid h1
  clear S0 h0
  have hn : xs.length ≤ 1048576 := by omega
  have S1 := szNodeS_any v1 ys (1048576 - xs.length) w h1 (by omega) (by omega)
  by_cases hlen2 : (1048576 : Int) - xs.length - ys.length < 0
  · rw [if_pos hlen2] at S1
    have K1 := Lib.hid S1
    clear S1 h1
    go_enter Try.func6, Try.ntmps6
    go_wp2_with fail
    refine K0.out.mono ?_
    rintro e w' ⟨rfl, rfl⟩
    go_wp2_with fail
    refine K1.out.mono ?_
    rintro e w' ⟨rfl, rfl⟩
    go_wp2
    go_ret
    exact ⟨rfl, Below.refl _ _⟩
  rw [if_neg hlen2] at S1
  have K1 := Lib.hid S1
  clear S1 h1
  have hm : ys.length ≤ 1048576 := by omega
  go_enter Try.func6, Try.ntmps6
  go_wp2_with fail
  refine K0.out.mono ?_
  rintro e w' ⟨rfl, rfl⟩
  go_wp2_with fail
  refine K1.out.mono ?_
  rintro e w' ⟨rfl, rfl⟩
  go_wp2_with fail
  refine (toNodeS_any _ xs _ H0.out hn).mono ?_
  rintro e w1 ⟨g1, rfl, ho1, hb1⟩
  have O1 := Lib.hid ho1; have B1 := Lib.hid hb1; clear ho1 hb1
  go_wp2_with fail
  refine (toNodeS_any _ ys _ (H1.out.below B1.out (Nat.le_refl _)) hm).mono ?_
  rintro e w2 ⟨g2, rfl, ho2, hb2⟩
  have N1 := Lib.hid ((Ns.of_own O1.out).below hb2 (Nat.le_refl _))
  have O2 := Lib.hid ho2; have B2 := Lib.hid (B1.out.trans (hb2.mono B1.out.size)); clear ho2 hb2
  go_wp2_with fail
  refine (specSame_any _ _ xs ys _ N1.out (Ns.of_own O2.out)).mono ?_
  rintro e w3 ⟨rfl, hb3⟩
  have B3 := Lib.hid (B2.out.trans (hb3.mono B2.out.size)); clear hb3
  generalize hfo : sameL xs ys = res
  have HF := Lib.hid hfo
  clear hfo
  go_wp2_with fail
  refine (toNodeS_any _ xs _ (H0.out.below B3.out (Nat.le_refl _)) hn).mono ?_
  rintro e w4 ⟨g4, rfl, ho4, hb4⟩
  have O4 := Lib.hid ho4; have B4 := Lib.hid (B3.out.trans (hb4.mono B3.out.size)); clear ho4 hb4
  go_wp2_with fail
  refine (toNodeS_any _ ys _ (H1.out.below B4.out (Nat.le_refl _)) hm).mono ?_
  rintro e w5 ⟨g5, rfl, ho5, hb5⟩
  have N4 := Lib.hid ((Ns.of_own O4.out).below hb5 (Nat.le_refl _))
  have O5 := Lib.hid ho5; have B5 := Lib.hid (B4.out.trans (hb5.mono B4.out.size)); clear ho5 hb5
  go_wp2_with fail
  refine (implSame_any _ _ xs ys _ N4.out (Ns.of_own O5.out)).mono ?_
  rintro e w6 ⟨rfl, hb6⟩
  have N6 := Lib.hid (N4.out.below hb6 (Nat.le_refl _))
  have M6 := Lib.hid ((Ns.of_own O5.out).below hb6 (Nat.le_refl _))
  have B6 := Lib.hid (B5.out.trans (hb6.mono B5.out.size)); clear hb6
  rw [HF.out]
  go_wp2_with fail
  refine (toNodeS_any _ xs _ (H0.out.below B6.out (Nat.le_refl _)) hn).mono ?_
  rintro e w7 ⟨g7, rfl, ho7, hb7⟩
  have N7 := Lib.hid (N6.out.below hb7 (Nat.le_refl _))
  have M7 := Lib.hid (M6.out.below hb7 (Nat.le_refl _))
  have O7 := Lib.hid ho7; have B7 := Lib.hid (B6.out.trans (hb7.mono B6.out.size)); clear ho7 hb7
  go_wp2_with fail
  refine (eqNodeS_same _ _ xs _ N7.out (Ns.of_own O7.out)).mono ?_
  rintro e w8 ⟨rfl, hb8⟩
  have M8 := Lib.hid (M7.out.below hb8 (Nat.le_refl _))
  have B8 := Lib.hid (B7.out.trans (hb8.mono B7.out.size)); clear hb8
  go_wp2_with fail
  refine (toNodeS_any _ ys _ (H1.out.below B8.out (Nat.le_refl _)) hm).mono ?_
  rintro e w9 ⟨g9, rfl, ho9, hb9⟩
  have M9 := Lib.hid (M8.out.below hb9 (Nat.le_refl _))
  have O9 := Lib.hid ho9; have B9 := Lib.hid (B8.out.trans (hb9.mono B8.out.size)); clear ho9 hb9
  go_wp2_with fail
  refine (eqNodeS_same _ _ ys _ M9.out (Ns.of_own O9.out)).mono ?_
  rintro e w10 ⟨rfl, hb10⟩
  have B10 := Lib.hid (B9.out.trans (hb10.mono B9.out.size)); clear hb10
  go_wp2
  go_ret
  exact ⟨rfl, B10.out⟩
end Go.Proofs.Ytcdccdcalmnocaa
