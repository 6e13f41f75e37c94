/-
  StaysTrue of both sides. No condition but the readings.
-/
import Derived.Test.YtodjohdbngbpaaaGreatZAnn
import Derived.Test.YtodjohdbngbpaaaGreatTho
namespace Go.Proofs.YtodjohdbngbpaaaGreat
open Go.RowKit Go.WideShapes
open Go Go.Deep
set_option linter.unusedSimpArgs false

/-- the announcement succeeds and its formula is true afterwards -/
def staysR (m : Md) (xs : List Nd) : Bool := match annR m xs with
  | some R => holdsR R xs
  | none => false

set_option maxRecDepth 100000 in
set_option maxHeartbeats 16000000 in
theorem specStays_any (lo hi : Nat) (v v2 : Value) (m : Md) (xs : List Nd) (w : World) (hr : Mv lo hi w v m) (hhi : hi ≤ w.heap.size) (hr2 : Ns w v2 xs) :
    Calls Tryz.prog 47 #[v, v2] w fun e w' => e = .returned (.bool (staysR m xs)) ∧ Below w.heap.size w w' := by
  have KA := Lib.hid (fun W (h : Below w.heap.size w W) => specAnn_any lo hi v v2 m xs W (hr.keeps (Keeps.of_all h)) (Nat.le_trans hhi h.size) (hr2.below h (Nat.le_refl _)))
  have H2 := Lib.hid hr2
  unfold MdAns2 at KA
  obtain ⟨fv, bv, rfl, hf, hb⟩ := hr
  obtain ⟨a2, c2, rfl, -⟩ := hr2.parts
  clear hf hb hr2
  cases hR : annR m xs with
  | none =>
    have HA : Hid (staysR m xs = false) := Lib.hid (by unfold staysR; rw [hR])
    rw [hR] at KA
    clear hR
    simp only [Option.getD_none, Option.isSome_none] at KA
    go_enter Tryz.func47, Tryz.ntmps47
    go_wp2_with fail
    refine (KA.out _ (by go_grown)).mono ?_
    rintro e w1 ⟨v1, rfl, ho, hb1⟩
    obtain ⟨fa, fc, ba, bc, e1⟩ := ho.read.form
    subst e1
    have B1 : Hid (Below w.heap.size w w1) := Lib.hid (Below.trans (by go_grown) (hb1.mono (by simp)))
    clear ho hb1
    have sb1 : w.heap.size ≤ w1.heap.size := B1.out.size
    go_wp2
    go_ret
    exact ⟨ret_bool HA.out.symm, by have := B1.out; go_grown⟩
  | some R =>
    have HA : Hid (staysR m xs = holdsR R xs) := Lib.hid (by unfold staysR; rw [hR])
    rw [hR] at KA
    clear hR
    simp only [Option.getD_some, Option.isSome_some] at KA
    go_enter Tryz.func47, Tryz.ntmps47
    go_wp2_with fail
    refine (KA.out _ (by go_grown)).mono ?_
    rintro e w1 ⟨v1, rfl, ho, hb1⟩
    obtain ⟨fa, fc, ba, bc, e1⟩ := ho.read.form
    subst e1
    have B1 : Hid (Below w.heap.size w w1) := Lib.hid (Below.trans (by go_grown) (hb1.mono (by simp)))
    have KH := Lib.hid (fun W (h : Below w1.heap.size w1 W) => specHolds_any _ _ _ _ R xs W (ho.read.keeps (Keeps.of_all h)) h.size (H2.out.below (B1.out.trans (h.mono B1.out.size)) (Nat.le_refl _)))
    clear ho hb1
    have sb1 : w.heap.size ≤ w1.heap.size := B1.out.size
    go_wp2_with fail
    refine (KH.out _ (by go_grown)).mono ?_
    rintro e w2 ⟨rfl, hb2⟩
    have B2 : Hid (Below w.heap.size w w2) := Lib.hid (B1.out.trans (Below.trans (b := _) (by go_grown) (hb2.mono (by simp; omega))))
    clear hb2
    go_wp2
    go_ret
    exact ⟨ret_bool HA.out.symm, B2.out⟩

set_option maxRecDepth 100000 in
set_option maxHeartbeats 16000000 in
theorem implStays_any (lo hi : Nat) (v v2 : Value) (m : Md) (xs : List Nd) (w : World) (hr : Mv lo hi w v m) (hhi : hi ≤ w.heap.size) (hr2 : Ns w v2 xs) :
    Calls Tryz.prog 48 #[v, v2] w fun e w' => e = .returned (.bool (staysR m xs)) ∧ Below w.heap.size w w' := by
  have KA := Lib.hid (fun W (h : Below w.heap.size w W) => implAnn_any lo hi v v2 m xs W (hr.keeps (Keeps.of_all h)) (Nat.le_trans hhi h.size) (hr2.below h (Nat.le_refl _)))
  have H2 := Lib.hid hr2
  unfold MdAns2 at KA
  obtain ⟨fv, bv, rfl, hf, hb⟩ := hr
  obtain ⟨a2, c2, rfl, -⟩ := hr2.parts
  clear hf hb hr2
  cases hR : annR m xs with
  | none =>
    have HA : Hid (staysR m xs = false) := Lib.hid (by unfold staysR; rw [hR])
    rw [hR] at KA
    clear hR
    simp only [Option.getD_none, Option.isSome_none] at KA
    go_enter Tryz.func48, Tryz.ntmps48
    go_wp2_with fail
    refine (KA.out _ (by go_grown)).mono ?_
    rintro e w1 ⟨v1, rfl, ho, hb1⟩
    obtain ⟨fa, fc, ba, bc, e1⟩ := ho.read.form
    subst e1
    have B1 : Hid (Below w.heap.size w w1) := Lib.hid (Below.trans (by go_grown) (hb1.mono (by simp)))
    clear ho hb1
    have sb1 : w.heap.size ≤ w1.heap.size := B1.out.size
    go_wp2
    go_ret
    exact ⟨ret_bool HA.out.symm, by have := B1.out; go_grown⟩
  | some R =>
    have HA : Hid (staysR m xs = holdsR R xs) := Lib.hid (by unfold staysR; rw [hR])
    rw [hR] at KA
    clear hR
    simp only [Option.getD_some, Option.isSome_some] at KA
    go_enter Tryz.func48, Tryz.ntmps48
    go_wp2_with fail
    refine (KA.out _ (by go_grown)).mono ?_
    rintro e w1 ⟨v1, rfl, ho, hb1⟩
    obtain ⟨fa, fc, ba, bc, e1⟩ := ho.read.form
    subst e1
    have B1 : Hid (Below w.heap.size w w1) := Lib.hid (Below.trans (by go_grown) (hb1.mono (by simp)))
    have KH := Lib.hid (fun W (h : Below w1.heap.size w1 W) => implHolds_any _ _ _ _ R xs W (ho.read.keeps (Keeps.of_all h)) h.size (H2.out.below (B1.out.trans (h.mono B1.out.size)) (Nat.le_refl _)))
    clear ho hb1
    have sb1 : w.heap.size ≤ w1.heap.size := B1.out.size
    go_wp2_with fail
    refine (KH.out _ (by go_grown)).mono ?_
    rintro e w2 ⟨rfl, hb2⟩
    have B2 : Hid (Below w.heap.size w w2) := Lib.hid (B1.out.trans (Below.trans (b := _) (by go_grown) (hb2.mono (by simp; omega))))
    clear hb2
    go_wp2
    go_ret
    exact ⟨ret_bool HA.out.symm, B2.out⟩

end Go.Proofs.YtodjohdbngbpaaaGreat
