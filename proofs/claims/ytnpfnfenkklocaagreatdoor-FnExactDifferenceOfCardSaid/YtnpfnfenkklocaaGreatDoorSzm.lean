/-
  szModel with any budget. No condition but the reading.
-/
import Derived.Test.YtnpfnfenkklocaaGreatDoorZArr
namespace Go.Proofs.YtnpfnfenkklocaaGreatDoor
open Go.RowKit Go.WideShapes
open Go Go.Deep
set_option linter.unusedSimpArgs false

set_option maxHeartbeats 2000000 in
theorem szModelK_any (lo hi : Nat) (v : Value) (m : Md) (left : Int) (w : World) (h : Mv lo hi w v m) (hl0 : 0 ≤ left) (hl1 : left ≤ 1048576) :
    Calls Tryz.prog 5 #[v, .int .i64 left] w fun e w' => e = .returned (.int .i64 (budget left (msize m + m.blocks.length))) ∧ Below w.heap.size w w' := by
  obtain ⟨fv, bv, rfl, hf, hb⟩ := h
  obtain ⟨fa, fc, e1⟩ := hf.form
  obtain ⟨ba, bc, e2, hxx⟩ := hb.parts
  clear hxx
  subst e1
  subst e2
  rw [show msize m + m.blocks.length = m.facts.length + (m.blocks.length + tot m.blocks) by unfold msize; omega, budget_add]
  have KF := Lib.hid (fun W (h : Below w.heap.size w W) => szIntS_any lo hi _ m.facts left W (hf.keeps (Keeps.of_all h)) (by omega) (by omega))
  by_cases h1 : left - (m.facts.length : Int) < 0
  · rw [if_pos h1]
    have hbud : budget left m.facts.length = -1 := by unfold budget; rw [if_pos h1]
    rw [hbud] at KF
    clear hbud hf hb
    go_enter Tryz.func5, Tryz.ntmps5
    go_wp2_with fail
    refine (KF.out _ (by go_grown)).mono ?_
    rintro e w' ⟨rfl, rfl⟩
    go_wp2
    go_ret
    exact ⟨rfl, by go_grown⟩
  · rw [if_neg h1]
    have hbud : budget left m.facts.length = left - m.facts.length := by unfold budget; rw [if_neg h1]
    rw [hbud] at KF
    have KB := Lib.hid (fun W (h : Below w.heap.size w W) => szIntSS_any lo hi _ m.blocks (left - m.facts.length) W (hb.keeps (Keeps.of_all h)) (by omega) (by omega))
    clear hbud hf hb
    have hcase : budget (left - m.facts.length) (m.blocks.length + tot m.blocks) = -1 ∨ 0 ≤ budget (left - m.facts.length) (m.blocks.length + tot m.blocks) := by
      unfold budget
      split
      · exact .inl rfl
      · exact .inr (by omega)
    generalize budget (left - m.facts.length) (m.blocks.length + tot m.blocks) = q at *
    rcases hcase with rfl | hq
    · go_enter Tryz.func5, Tryz.ntmps5
      go_wp2_with fail
      refine (KF.out _ (by go_grown)).mono ?_
      rintro e w' ⟨rfl, rfl⟩
      go_wp2_with fail
      refine (KB.out _ (by go_grown)).mono ?_
      rintro e w' ⟨rfl, rfl⟩
      go_wp2
      go_ret
      exact ⟨rfl, by go_grown⟩
    · go_enter Tryz.func5, Tryz.ntmps5
      go_wp2_with fail
      refine (KF.out _ (by go_grown)).mono ?_
      rintro e w' ⟨rfl, rfl⟩
      go_wp2_with fail
      refine (KB.out _ (by go_grown)).mono ?_
      rintro e w' ⟨rfl, rfl⟩
      go_wp2
      go_ret
      exact ⟨rfl, by go_grown⟩

end Go.Proofs.YtnpfnfenkklocaaGreatDoor
