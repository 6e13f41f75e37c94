/-
  Contracts of SameFormula of both sides and the walk of the law FnExactSameFormula. No condition.
-/
import Derived.Test.YtodjohdbngbpaaaGreatZCmb
namespace Go.Proofs.YtodjohdbngbpaaaGreat
open Go.RowKit
open Go Go.Deep

def sameL (xs ys : List Nd) : Bool := formOk xs && formOk ys && ((textL xs).toList == (textL ys).toList)
theorem textL_no {xs : List Nd} (h : formOk xs = false) : textL xs = ByteArray.mk #[] := by unfold textL; rw [h]; rfl
theorem textL_yes {xs : List Nd} (h : formOk xs = true) : (textL xs).toList.isEmpty = false := by
  unfold textL
  rw [if_pos h]
  have h1 := (txt_len (termOfL xs)).1
  have h2 := (termOfL xs).size_pos
  have e : (str (txt (termOfL xs))).toList = txt (termOfL xs) := by simp [str]
  rw [e]
  cases ht : txt (termOfL xs) with
  | nil => rw [ht] at h1; simp at h1; omega
  | cons a l => rfl

set_option maxHeartbeats 2000000 in
theorem implSameF_any (u v : Value) (xs ys : List Nd) (w : World) (hu : Ns w u xs) (hv : Ns w v ys) :
    Calls Tryz.prog 31 #[u, v] w fun e w' => e = .returned (.bool (sameL xs ys)) ∧ Below w.heap.size w w' := by
  have K3 := Lib.hid (fun W (h : Below w.heap.size w W) => implFormat_any xs u W (hu.below h (Nat.le_refl _)))
  have K4 := Lib.hid (fun W (h : Below w.heap.size w W) => implFormat_any ys v W (hv.below h (Nat.le_refl _)))
  clear hu hv
  unfold sameL
  cases hx : formOk xs with
  | false =>
    rw [textL_no hx] at K3 ⊢
    clear hx
    go_enter Tryz.func31, Tryz.ntmps31
    go_wp2_with fail
    refine (K3.out _ (Below.refl _ _)).mono ?_
    rintro e w1 ⟨rfl, hb1⟩
    have B1 := Lib.hid hb1; clear hb1
    go_wp2
    go_ret
    exact ⟨rfl, B1.out⟩
  | true =>
    have hs := textL_yes hx
    clear hx
    generalize textL xs = s at *
    have hs' : ¬ s.toList = [] := fun h => by rw [h] at hs; cases hs
    cases hy : formOk ys with
    | false =>
      rw [textL_no hy] at K4 ⊢
      clear hy
      go_enter Tryz.func31, Tryz.ntmps31
      go_wp2_with fail
      refine (K3.out _ (Below.refl _ _)).mono ?_
      rintro e w1 ⟨rfl, hb1⟩
      have B1 := Lib.hid hb1; clear hb1
      go_wp2_with fail
      refine (K4.out _ B1.out).mono ?_
      rintro e w2 ⟨rfl, hb2⟩
      have B2 := Lib.hid (B1.out.trans (hb2.mono B1.out.size)); clear hb2
      go_wp2
      go_ret
      exact ⟨ret_bool (by simp), B2.out⟩
    | true =>
      clear hy
      generalize textL ys = t at *
      go_enter Tryz.func31, Tryz.ntmps31
      go_wp2_with fail
      refine (K3.out _ (Below.refl _ _)).mono ?_
      rintro e w1 ⟨rfl, hb1⟩
      have B1 := Lib.hid hb1; clear hb1
      go_wp2_with fail
      refine (K4.out _ B1.out).mono ?_
      rintro e w2 ⟨rfl, hb2⟩
      have B2 := Lib.hid (B1.out.trans (hb2.mono B1.out.size)); clear hb2
      go_wp2
      go_ret
      exact ⟨rfl, B2.out⟩

end Go.Proofs.YtodjohdbngbpaaaGreat
