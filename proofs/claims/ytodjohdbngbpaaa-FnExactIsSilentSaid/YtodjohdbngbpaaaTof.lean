/-
  TruthOf of both sides. No condition.
-/
import Derived.Test.YtodjohdbngbpaaaZSvb
namespace Go.Proofs.Ytodjohdbngbpaaa
open Go.RowKit Go.WideShapes
open Go Go.Deep
set_option linter.unusedSimpArgs false

set_option maxRecDepth 100000 in
set_option maxHeartbeats 16000000 in
theorem specTruthOf_any (lo hi : Nat) (v v2 : Value) (m : Md) (xs : List Nd) (w : World) (hr : Mv lo hi w v m) (_hhi : hi ≤ w.heap.size) (hr2 : Ns w v2 xs) :
    Calls Try.prog 49 #[v, v2] w (BoolsAns2 w (truthA m xs) (evOk m xs)) := by
  have KO := Lib.hid (fun W (h : Below w.heap.size w W) => specEvOk_any lo hi v v2 m xs W (hr.keeps (Keeps.of_all h)) (hr2.below h (Nat.le_refl _)))
  have KT := Lib.hid (fun (hok : evOk m xs = true) W (h : Below w.heap.size w W) => specTruth_any lo hi v v2 m xs W (hr.keeps (Keeps.of_all h)) (hr2.below h (Nat.le_refl _)) hok)
  obtain ⟨fv, bv, rfl, hf, hb⟩ := hr
  obtain ⟨a2, c2, rfl, -⟩ := hr2.parts
  clear hf hb hr2
  cases hok : evOk m xs with
  | false =>
    rw [hok] at KO
    have HA : Hid (truthA m xs = []) := Lib.hid (by unfold truthA; rw [hok]; rfl)
    clear KT hok
    go_enter Try.func49, Try.ntmps49
    go_wp2_with fail
    refine (KO.out _ (by go_grown)).mono ?_
    rintro e w1 ⟨rfl, hb1⟩
    have X1 := Lib.hid (Mcell.below (b := w.heap.size) (Mcell.new (fv := fv) (bv := bv) (n := m.actual) rfl) hb1)
    have B1 : Hid (Below w.heap.size w w1) := Lib.hid (Below.trans (by go_grown) (hb1.mono (by simp)))
    clear hb1
    go_wp2
    go_returns
    exact ⟨.slice none 0 0, rfl, by rw [HA.out]; exact Ro.of_own (World.ownsRow_nil _ _ _ _), B1.out⟩
  | true =>
    rw [hok] at KO
    have HA : Hid (truthA m xs = truthR m xs) := Lib.hid (by unfold truthA; rw [hok]; rfl)
    have KT := Lib.hid (KT.out hok)
    clear hok
    go_enter Try.func49, Try.ntmps49
    go_wp2_with fail
    refine (KO.out _ (by go_grown)).mono ?_
    rintro e w1 ⟨rfl, hb1⟩
    have X1 := Lib.hid (Mcell.below (b := w.heap.size) (Mcell.new (fv := fv) (bv := bv) (n := m.actual) rfl) hb1)
    have B1 : Hid (Below w.heap.size w w1) := Lib.hid (Below.trans (by go_grown) (hb1.mono (by simp)))
    clear hb1
    obtain ⟨c0, c1, c2, c3, c4, c5⟩ := X1.out
    go_wp2_with fail
    clear c0 c1 c2 c3 c4 c5
    refine (KT.out _ B1.out).mono ?_
    rintro e w2 ⟨v3, rfl, ho, hb⟩
    have HO := Lib.hid ho
    have sb1 : w.heap.size ≤ w1.heap.size := B1.out.size
    have B1 := Lib.hid (B1.out.trans (hb.mono B1.out.size))
    clear ho hb
    go_wp2
    go_returns
    exact ⟨v3, rfl, by rw [HA.out]; exact HO.out.wide sb1 (Nat.le_refl _), B1.out⟩

end Go.Proofs.Ytodjohdbngbpaaa
