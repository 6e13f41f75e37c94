/-
  Contracts of termOf and of FormatFormula and DepthOf of both sides.
-/
import Derived.Test.YtgmpenchojnihaaGreatTermT
import Derived.Test.YtgmpenchojnihaaGreatTermZ
namespace Go.Proofs.YtgmpenchojnihaaGreat
open Go.RowKit
open Go Go.Deep

/-- the term of a formula -/
def termOfL (xs : List Nd) : Tm := tmAt xs (xs.length - 1)
theorem termOfL_wf {xs : List Nd} (h : formOk xs = true) : (termOfL xs).wf := form_wf h
theorem termOfL_size {xs : List Nd} (h : formOk xs = true) : (termOfL xs).size ≤ 40 := by
  have := form_size h
  have := (formOk_parts h).2.1
  unfold termOfL; omega
/-- the text of a formula -/
def textL (xs : List Nd) : ByteArray := if formOk xs then str (txt (termOfL xs)) else ByteArray.mk #[]
/-- the depth of a formula -/
def depthL (xs : List Nd) : Int := if formOk xs then ((termOfL xs).deep : Int) else -1

theorem lastIx {xs : List Nd} (h : 1 ≤ xs.length) : ((xs.length - 1 : Nat) : Int) = (xs.length : Int) - 1 := by omega

set_option maxRecDepth 100000 in
set_option maxHeartbeats 4000000 in
theorem termOf_yes (xs : List Nd) (v : Value) (w : World) (hf : formOk xs = true) (hr : Ns w v xs) :
    Calls Tryz.prog 75 #[v] w fun e w' => e = .returned (.tuple #[tv (termOfL xs), .bool true]) ∧ Below w.heap.size w w' := by
  have K := Lib.hid (fun W h => implForm_any v xs W h)
  rw [hf] at K
  have hp := formOk_parts hf
  have KT := Lib.hid (fun W (h : Below w.heap.size w W) => termAt_any xs v hp.2.2.1 _ (xs.length - 1) W (Nat.lt_succ_self _) (by omega) (hr.below h (Nat.le_refl _)))
  rw [lastIx hp.1] at KT
  have HR := Lib.hid hr
  obtain ⟨a, cap, rfl, h1, h2, h3⟩ := hr
  unfold maxLen at h2
  have hl := hp.1
  clear h3 hp hf
  unfold termOfL
  generalize tv (tmAt xs (xs.length - 1)) = R at *
  go_enter Tryz.func75, Tryz.ntmps75
  go_wp2_with fail
  refine (K.out _ HR.out).mono ?_
  rintro e w1 ⟨rfl, hb1⟩
  have B1 := Lib.hid hb1; clear hb1
  go_wp2_with fail
  refine (KT.out _ B1.out).mono ?_
  rintro e w2 ⟨rfl, hb2⟩
  have B2 := Lib.hid (B1.out.trans (hb2.mono B1.out.size)); clear hb2
  go_wp2
  go_returns
  exact ⟨rfl, B2.out⟩
set_option maxHeartbeats 4000000 in
theorem termOf_no (xs : List Nd) (v : Value) (w : World) (hf : formOk xs = false) (hr : Ns w v xs) :
    Calls Tryz.prog 75 #[v] w fun e w' => e = .returned (.tuple #[.nilIface, .bool false]) ∧ Below w.heap.size w w' := by
  have K := Lib.hid (fun W h => implForm_any v xs W h)
  rw [hf] at K
  have HR := Lib.hid hr
  clear hf hr
  go_enter Tryz.func75, Tryz.ntmps75
  go_wp2_with fail
  refine (K.out _ HR.out).mono ?_
  rintro e w1 ⟨rfl, hb1⟩
  have B1 := Lib.hid hb1; clear hb1
  go_wp2
  go_returns
  exact ⟨rfl, B1.out⟩

set_option maxHeartbeats 4000000 in
theorem implFormat_any (xs : List Nd) (v : Value) (w : World) (hr : Ns w v xs) :
    Calls Tryz.prog 38 #[v] w fun e w' => e = .returned (.string (textL xs)) ∧ Below w.heap.size w w' := by
  cases hf : formOk xs with
  | false =>
    rw [show textL xs = ByteArray.mk #[] by unfold textL; rw [hf]; rfl]
    have K := Lib.hid (fun W h => termOf_no xs v W hf h)
    have HR := Lib.hid hr
    clear hf hr
    go_enter Tryz.func38, Tryz.ntmps38
    go_wp2_with fail
    refine (K.out _ HR.out).mono ?_
    rintro e w1 ⟨rfl, hb1⟩
    have B1 := Lib.hid hb1; clear hb1
    go_wp2
    go_ret
    exact ⟨rfl, B1.out⟩
  | true =>
    rw [show textL xs = str (txt (termOfL xs)) by unfold textL; rw [hf]; rfl]
    have K := Lib.hid (fun W h => termOf_yes xs v W hf h)
    have KT := Lib.hid (fun W => textOf_any (termOfL xs) W (termOfL_wf hf) (by have := termOfL_size hf; omega))
    have HR := Lib.hid hr
    clear hf hr
    generalize str (txt (termOfL xs)) = R at *
    go_enter Tryz.func38, Tryz.ntmps38
    go_wp2_with fail
    refine (K.out _ HR.out).mono ?_
    rintro e w1 ⟨rfl, hb1⟩
    have B1 := Lib.hid hb1; clear hb1
    go_wp2_with fail
    refine (KT.out _).mono ?_
    rintro e w2 ⟨rfl, hb2⟩
    have B2 := Lib.hid (B1.out.trans (hb2.mono B1.out.size)); clear hb2
    go_wp2
    go_ret
    exact ⟨rfl, B2.out⟩

set_option maxRecDepth 100000 in
set_option maxHeartbeats 4000000 in
theorem specFormat2_any (xs : List Nd) (v : Value) (w : World) (hr : Ns w v xs) :
    Calls Tryz.prog 94 #[v] w fun e w' => e = .returned (.string (textL xs)) ∧ Below w.heap.size w w' := by
  have K := Lib.hid (fun W h => specForm_any v xs W h)
  cases hf : formOk xs with
  | false =>
    rw [show textL xs = ByteArray.mk #[] by unfold textL; rw [hf]; rfl]
    rw [hf] at K
    have HR := Lib.hid hr
    clear hf hr
    go_enter Tryz.func94, Tryz.ntmps94
    go_wp2_with fail
    refine (K.out _ HR.out).mono ?_
    rintro e w1 ⟨rfl, hb1⟩
    have B1 := Lib.hid hb1; clear hb1
    go_wp2
    go_ret
    exact ⟨rfl, B1.out⟩
  | true =>
    rw [show textL xs = str (txt (termOfL xs)) by unfold textL; rw [hf]; rfl]
    rw [hf] at K
    have hp := formOk_parts hf
    have hsz := termOfL_size hf
    have KT := Lib.hid (fun W (h : Below w.heap.size w W) => specText_any xs v hp.2.2.1 _ (xs.length - 1) W (Nat.lt_succ_self _) (by omega) (hr.below h (Nat.le_refl _)) (by unfold termOfL at hsz; omega))
    rw [lastIx hp.1] at KT
    have HR := Lib.hid hr
    obtain ⟨a, cap, rfl, h1, h2, h3⟩ := hr
    unfold maxLen at h2
    have hl := hp.1
    clear h3 hp hf hsz
    unfold termOfL
    generalize str (txt (tmAt xs (xs.length - 1))) = R at *
    go_enter Tryz.func94, Tryz.ntmps94
    go_wp2_with fail
    refine (K.out _ HR.out).mono ?_
    rintro e w1 ⟨rfl, hb1⟩
    have B1 := Lib.hid hb1; clear hb1
    go_wp2_with fail
    refine (KT.out _ B1.out).mono ?_
    rintro e w2 ⟨rfl, hb2⟩
    have B2 := Lib.hid (B1.out.trans (hb2.mono B1.out.size)); clear hb2
    go_wp2
    go_ret
    exact ⟨rfl, B2.out⟩

end Go.Proofs.YtgmpenchojnihaaGreat
