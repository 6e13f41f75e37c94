/-
  Contract of the laws' helper has. No condition but the reading.
-/
import Derived.Test.YteahjnobnbafiaaZLib
namespace Go.Proofs.Yteahjnobnbafiaa
open Go.RowKit Go.WideShapes
open Go Go.Deep
set_option linter.unusedSimpArgs false

/-- an element is there -/
def hasB (l : List Int) (x : Int) : Bool := decide (x ∈ l)
set_option maxRecDepth 100000 in
set_option maxHeartbeats 4000000 in
theorem lawHas_any (lo hi : Nat) (v : Value) (l : List Int) (y : Int) (w : World) (hv : Iv lo hi w v l) :
    Calls Try.prog 32 #[v, .int .i64 y] w fun e w' => e = .returned (.bool (hasB l y)) ∧ w = w' := by
  obtain ⟨a1, c1, rfl, hc1, hm1, h1⟩ := hv.parts
  have K1 := Lib.hid h1
  clear h1 hv
  unfold maxLen at hm1
  obtain ⟨R, hR⟩ : ∃ R, R = hasB l y := ⟨_, rfl⟩
  rw [← hR]
  have HR := Lib.hid hR
  clear hR
  go_enter Try.func32, Try.ntmps32
  go_wp2
  go_loop [9] (fun i => ∃ k : Nat, k ≤ l.length ∧ i = .int .i64 k ∧ Hid (∀ j, j < k → l.getD j 0 ≠ y)) (fun i => l.length - (intOf i).toNat)
  case atStart => exact ⟨0, Nat.zero_le _, rfl, Lib.hid (fun j hj => absurd hj (by omega))⟩
  case round =>
    obtain ⟨k, hk, rfl, HK⟩ := hrel
    by_cases hlt : k < l.length
    · obtain ⟨b1, o1, rfl, _, _, hb1, d0⟩ := K1.out k hlt
      have HY : Hid (l.getD k 0 ≠ y → ∀ j, j < k + 1 → l.getD j 0 ≠ y) := Lib.hid (fun h j hj => by
        rcases Nat.lt_or_ge j k with h1 | h1
        · exact HK.out j h1
        · rw [show j = k by omega]; exact h)
      have HN : Hid (l.getD k 0 = y → R = true) := Lib.hid (fun h => by
        rw [HR.out]; unfold hasB
        refine decide_eq_true ?_
        rw [← h, List.getD_eq_getElem?_getD, List.getElem?_eq_getElem hlt]; exact List.getElem_mem _)
      generalize l.getD k 0 = x at d0 HY HN
      by_cases hxy : x = y
      · have HN2 := Lib.hid (HN.out hxy)
        have hne : (x == y) = true := by rw [hxy]; simp
        go_wp2
        go_ret
        exact ⟨ret_bool HN2.out.symm, rfl⟩
      · have HY2 := Lib.hid (HY.out hxy)
        have hne : (x == y) = false := by rw [beq_eq_false_iff_ne]; exact hxy
        go_wp2
        go_round
        case rel => exact ⟨k + 1, by omega, by go_num, HY2⟩
        case measure => simp [intOf]; omega
    · have HE : Hid (R = false) := Lib.hid (by
        rw [HR.out]; unfold hasB
        refine decide_eq_false fun hm => ?_
        obtain ⟨j, hj, e⟩ := List.getElem_of_mem hm
        refine HK.out j (by omega) ?_
        rw [List.getD_eq_getElem?_getD, List.getElem?_eq_getElem hj]; exact e)
      go_wp2
      go_ret
      exact ⟨ret_bool HE.out.symm, rfl⟩
end Go.Proofs.Yteahjnobnbafiaa
