/-
  MeetsAfter of both sides. No condition but the readings.
-/
import Derived.Test.YtodjohdbngbpaaaGreatTho
import Derived.Test.YtodjohdbngbpaaaGreatZCmb
import Derived.Test.YtodjohdbngbpaaaGreatSpecR
namespace Go.Proofs.YtodjohdbngbpaaaGreat
open Go.RowKit Go.WideShapes
open Go Go.Deep
set_option linter.unusedSimpArgs false

/-- the formula of an announcement -/
def afterR (xs ys : List Nd) : Option (List Nd) := if formOk xs && formOk ys then combL (.joint 9 (termOfL xs) (termOfL ys)) else none
/-- the formula of an announcement is true -/
def meetsR (m : Md) (xs ys : List Nd) : Bool := match afterR xs ys with
  | some zs => holdsR m zs
  | none => false

set_option maxRecDepth 100000 in
set_option maxHeartbeats 16000000 in
theorem specMeets_any (lo hi : Nat) (v v2 v3 : Value) (m : Md) (xs ys : List Nd) (w : World) (hr : Mv lo hi w v m) (hhi : hi ≤ w.heap.size) (hr2 : Ns w v2 xs) (hr3 : Ns w v3 ys) :
    Calls Tryz.prog 49 #[v, v2, v3] w fun e w' => e = .returned (.bool (meetsR m xs ys)) ∧ Below w.heap.size w w' := by
  have KA := Lib.hid (fun W (h : Below w.heap.size w W) => specAfter_any v2 v3 xs ys W (hr2.below h (Nat.le_refl _)) (hr3.below h (Nat.le_refl _)))
  rw [show (if formOk xs && formOk ys then combL (.joint 9 (termOfL xs) (termOfL ys)) else none) = afterR xs ys from rfl] at KA
  unfold Ans at KA
  have H1 := Lib.hid hr
  obtain ⟨fv, bv, rfl, hf, hb⟩ := hr
  obtain ⟨a2, c2, rfl, -⟩ := hr2.parts
  obtain ⟨a3, c3, rfl, -⟩ := hr3.parts
  clear hf hb hr2 hr3
  cases hR : afterR xs ys with
  | none =>
    have HA : Hid (meetsR m xs ys = false) := Lib.hid (by unfold meetsR; rw [hR])
    rw [hR] at KA
    clear hR
    simp only [Option.getD_none, Option.isSome_none] at KA
    go_enter Tryz.func49, Tryz.ntmps49
    go_wp2_with fail
    refine (KA.out _ (by go_grown)).mono ?_
    rintro e w1 ⟨v1, rfl, ho, hb1⟩
    have B1 : Hid (Below w.heap.size w w1) := Lib.hid (Below.trans (by go_grown) (hb1.mono (by simp)))
    clear ho hb1
    go_wp2
    go_ret
    exact ⟨ret_bool HA.out.symm, B1.out⟩
  | some zs =>
    have HA : Hid (meetsR m xs ys = holdsR m zs) := Lib.hid (by unfold meetsR; rw [hR])
    rw [hR] at KA
    clear hR
    simp only [Option.getD_some, Option.isSome_some] at KA
    go_enter Tryz.func49, Tryz.ntmps49
    go_wp2_with fail
    refine (KA.out _ (by go_grown)).mono ?_
    rintro e w1 ⟨v1, rfl, ho, hb1⟩
    have X1 := Lib.hid (Mcell.below (b := w.heap.size) (Mcell.new (fv := fv) (bv := bv) (n := m.actual) rfl) hb1)
    have B1 : Hid (Below w.heap.size w w1) := Lib.hid (Below.trans (by go_grown) (hb1.mono (by simp)))
    have KH := Lib.hid (fun W (h : Below w1.heap.size w1 W) => specHolds_any lo hi _ _ m zs W (H1.out.keeps (Keeps.of_all (B1.out.trans (h.mono B1.out.size)))) (by have := B1.out.size; have := h.size; omega) ((Ns.of_own ho).below h (Nat.le_refl _)))
    clear ho hb1
    obtain ⟨c0, c1, c2', c3', c4, c5⟩ := X1.out
    go_wp2_with fail
    clear c0 c1 c2' c3' c4 c5
    refine (KH.out _ (Below.refl _ _)).mono ?_
    rintro e w2 ⟨rfl, hb2⟩
    have B2 : Hid (Below w.heap.size w w2) := Lib.hid (B1.out.trans (hb2.mono B1.out.size))
    clear hb2
    go_wp2
    go_ret
    exact ⟨ret_bool HA.out.symm, B2.out⟩

set_option maxRecDepth 100000 in
set_option maxHeartbeats 16000000 in
theorem implMeets_any (lo hi : Nat) (v v2 v3 : Value) (m : Md) (xs ys : List Nd) (w : World) (hr : Mv lo hi w v m) (hhi : hi ≤ w.heap.size) (hr2 : Ns w v2 xs) (hr3 : Ns w v3 ys) :
    Calls Tryz.prog 50 #[v, v2, v3] w fun e w' => e = .returned (.bool (meetsR m xs ys)) ∧ Below w.heap.size w w' := by
  have KA := Lib.hid (fun W (h : Below w.heap.size w W) => implAfter_any v2 v3 xs ys W (hr2.below h (Nat.le_refl _)) (hr3.below h (Nat.le_refl _)))
  rw [show (if formOk xs && formOk ys then combL (.joint 9 (termOfL xs) (termOfL ys)) else none) = afterR xs ys from rfl] at KA
  unfold Ans at KA
  have H1 := Lib.hid hr
  obtain ⟨fv, bv, rfl, hf, hb⟩ := hr
  obtain ⟨a2, c2, rfl, -⟩ := hr2.parts
  obtain ⟨a3, c3, rfl, -⟩ := hr3.parts
  clear hf hb hr2 hr3
  cases hR : afterR xs ys with
  | none =>
    have HA : Hid (meetsR m xs ys = false) := Lib.hid (by unfold meetsR; rw [hR])
    rw [hR] at KA
    clear hR
    simp only [Option.getD_none, Option.isSome_none] at KA
    go_enter Tryz.func50, Tryz.ntmps50
    go_wp2_with fail
    refine (KA.out _ (by go_grown)).mono ?_
    rintro e w1 ⟨v1, rfl, ho, hb1⟩
    have B1 : Hid (Below w.heap.size w w1) := Lib.hid (Below.trans (by go_grown) (hb1.mono (by simp)))
    clear ho hb1
    go_wp2
    go_ret
    exact ⟨ret_bool HA.out.symm, B1.out⟩
  | some zs =>
    have HA : Hid (meetsR m xs ys = holdsR m zs) := Lib.hid (by unfold meetsR; rw [hR])
    rw [hR] at KA
    clear hR
    simp only [Option.getD_some, Option.isSome_some] at KA
    go_enter Tryz.func50, Tryz.ntmps50
    go_wp2_with fail
    refine (KA.out _ (by go_grown)).mono ?_
    rintro e w1 ⟨v1, rfl, ho, hb1⟩
    have X1 := Lib.hid (Mcell.below (b := w.heap.size) (Mcell.new (fv := fv) (bv := bv) (n := m.actual) rfl) hb1)
    have B1 : Hid (Below w.heap.size w w1) := Lib.hid (Below.trans (by go_grown) (hb1.mono (by simp)))
    have KH := Lib.hid (fun W (h : Below w1.heap.size w1 W) => implHolds_any lo hi _ _ m zs W (H1.out.keeps (Keeps.of_all (B1.out.trans (h.mono B1.out.size)))) (by have := B1.out.size; have := h.size; omega) ((Ns.of_own ho).below h (Nat.le_refl _)))
    clear ho hb1
    obtain ⟨c0, c1, c2', c3', c4, c5⟩ := X1.out
    go_wp2_with fail
    clear c0 c1 c2' c3' c4 c5
    refine (KH.out _ (Below.refl _ _)).mono ?_
    rintro e w2 ⟨rfl, hb2⟩
    have B2 : Hid (Below w.heap.size w w2) := Lib.hid (B1.out.trans (hb2.mono B1.out.size))
    clear hb2
    go_wp2
    go_ret
    exact ⟨ret_bool HA.out.symm, B2.out⟩

end Go.Proofs.YtodjohdbngbpaaaGreat
