/-
  WorldsWhere of both sides. No condition.
-/
import Derived.Test.YtbjdgcckedoamaaGreatZSvb
namespace Go.Proofs.YtbjdgcckedoamaaGreat
open Go.RowKit Go.WideShapes
open Go Go.Deep
set_option linter.unusedSimpArgs false

set_option maxRecDepth 100000 in
set_option maxHeartbeats 16000000 in
theorem specWhere_any (lo hi : Nat) (v v2 : Value) (m : Md) (xs : List Nd) (w : World) (hr : Mv lo hi w v m) (_hhi : hi ≤ w.heap.size) (hr2 : Ns w v2 xs) :
    Calls Tryz.prog 34 #[v, v2] w (IntsAns w (whereR m xs)) := by
  have KO := Lib.hid (fun W (h : Below w.heap.size w W) => specEvOk_any lo hi v v2 m xs W (hr.keeps (Keeps.of_all h)) (hr2.below h (Nat.le_refl _)))
  have KT := Lib.hid (fun (hok : evOk m xs = true) W (h : Below w.heap.size w W) => specTruth_any lo hi v v2 m xs W (hr.keeps (Keeps.of_all h)) (hr2.below h (Nat.le_refl _)) hok)
  obtain ⟨fv, bv, rfl, hf, hb⟩ := hr
  obtain ⟨a2, c2, rfl, -⟩ := hr2.parts
  clear hf hb hr2
  cases hok : evOk m xs with
  | false =>
    rw [hok] at KO
    have HA : Hid (whereR m xs = []) := Lib.hid (by unfold whereR; rw [hok]; rfl)
    clear KT hok
    go_enter Tryz.func34, Tryz.ntmps34
    go_wp2_with fail
    refine (KO.out _ (by go_grown)).mono ?_
    rintro e w1 ⟨rfl, hb1⟩
    have X1 := Lib.hid (Mcell.below (b := w.heap.size) (Mcell.new (fv := fv) (bv := bv) (n := m.actual) rfl) hb1)
    have B1 : Hid (Below w.heap.size w w1) := Lib.hid (Below.trans (by go_grown) (hb1.mono (by simp)))
    clear hb1
    go_wp2
    go_ret
    exact ⟨.slice none 0 0, rfl, by rw [HA.out]; exact Ro.of_own (World.ownsRow_nil _ _ _ _), B1.out⟩
  | true =>
    rw [hok] at KO
    have HA : Hid (whereR m xs = nums (lst (fun i => (truthR m xs).getD i false) (truthR m xs).length)) := Lib.hid (by unfold whereR; rw [if_pos hok, list_truth hok])
    have HL : Hid ((truthR m xs).length ≤ 16) := Lib.hid (by rw [truthR_len]; exact (ok_len hok).2)
    have KT := Lib.hid (KT.out hok)
    clear hok
    go_enter Tryz.func34, Tryz.ntmps34
    go_wp2_with fail
    refine (KO.out _ (by go_grown)).mono ?_
    rintro e w1 ⟨rfl, hb1⟩
    have X1 := Lib.hid (Mcell.below (b := w.heap.size) (Mcell.new (fv := fv) (bv := bv) (n := m.actual) rfl) hb1)
    have B1 : Hid (Below w.heap.size w w1) := Lib.hid (Below.trans (by go_grown) (hb1.mono (by simp)))
    clear hb1
    obtain ⟨c0, c1, c2, c3, c4, c5⟩ := X1.out
    go_wp2_with fail
    clear c0 c1 c2 c3 c4 c5
    refine (KT.out _ B1.out).mono ?_
    rintro e w2 ⟨v3, rfl, ho, hb⟩
    have HO := Lib.hid ho.read
    have B1 := Lib.hid (B1.out.trans (hb.mono B1.out.size))
    clear ho hb
    go_wp2_with fail
    refine (specList_any _ _ _ _ _ HO.out (by have := HL.out; omega)).mono ?_
    rintro e w3 ⟨v4, rfl, ho, hb⟩
    have HO := Lib.hid ho
    have sb1 : w.heap.size ≤ w2.heap.size := B1.out.size
    have B1 := Lib.hid (B1.out.trans (hb.mono B1.out.size))
    clear ho hb
    go_wp2
    go_ret
    exact ⟨v4, rfl, by rw [HA.out]; exact HO.out.wide sb1 (Nat.le_refl _), B1.out⟩

end Go.Proofs.YtbjdgcckedoamaaGreat
