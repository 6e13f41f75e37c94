/-
  The map of a person: choices.hasOne. Condition: the numbers are such as a machine has.
-/
import Derived.Test.YtmcjimmebbkjcaaPid
import Derived.Test.YtmcjimmebbkjcaaZReg
import Derived.Deep.DeepCutAuto
namespace Go.Proofs.Ytmcjimmebbkjcaa
open Go.RowKit Go.WideShapes
open Go Go.Deep
set_option linter.unusedSimpArgs false

set_option maxRecDepth 100000 in
set_option maxHeartbeats 4000000 in
theorem hasOne_any (B b c : Nat) (D : DataW Value) (V : Int → Value) (g : Int → List Pr) (k : Int) (W : World) (h : Grp Try.prog 3 33 W B b c D V g) (hk : (Lit.int .i64 k).wf = true) :
    Calls Try.prog 66 #[.map (some b), .int .i64 k] W fun e W' => e = .returned (.bool (decide ((g k).length = 1))) ∧ Below W.heap.size W W' := by
  have HKK := Lib.hid (keyI hk)
  have HE := Lib.hid (h.elt k)
  have hlt := h.own.lt
  obtain ⟨va, vc, hv, hvc, hvm, hcell⟩ := (Ps.of_own (h.row k)).parts
  rw [hv] at HE
  have HOWN := Lib.hid h.own
  unfold maxLen at hvm
  clear hv h hcell
  have HD : Hid (decide ((g k).length = 1) = (((g k).length : Int) == 1)) := Lib.hid (by rw [Bool.eq_iff_iff, decide_eq_true_eq, beq_iff_eq]; omega)
  rw [HD.out]
  clear HD
  generalize g k = gk at *
  go_enter Try.func66, Try.ntmps66
  go_wp2_with
    (at_lookup; refine wpList_lookup_heldP _ rfl _ _ 61 22 rfl lawI Try.underlying61 (zeroPs _) rfl HOWN.out _ _ rfl HKK.out HE.out ?_)
  go_ret
  exact ⟨rfl, by go_grown⟩
end Go.Proofs.Ytmcjimmebbkjcaa
