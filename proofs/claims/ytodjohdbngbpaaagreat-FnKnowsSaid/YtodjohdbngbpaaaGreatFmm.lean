/-
  What the law FnModels rests on: models of some worlds, what is reached, told facts, in mathematics; the laws' helpers same and has. Conditions: the model is valid; the readings.
-/
import Derived.Test.YtodjohdbngbpaaaGreatSme
import Derived.Test.YtodjohdbngbpaaaGreatLhs
import Derived.Test.YtodjohdbngbpaaaGreatZSem
import Derived.Test.YtodjohdbngbpaaaGreatRmy
import Derived.Test.YtodjohdbngbpaaaGreatZRch
import Derived.Test.YtodjohdbngbpaaaGreatZSet
import Derived.Test.YtodjohdbngbpaaaGreatZMok
import Derived.Test.YtodjohdbngbpaaaGreatEqf
namespace Go.Proofs.YtodjohdbngbpaaaGreat
open Go.RowKit Go.WideShapes
open Go Go.Deep
set_option linter.unusedSimpArgs false

theorem restM_ok {m : Md} {ws : List Nat} (hm : mdOk m = true) (hnd : ws.Nodup) (hw : ∀ i ∈ ws, i < m.facts.length) (ha : m.actual.toNat ∈ ws) : mdOk (restM m ws) = true := by
  obtain ⟨p1, p2, p3, p4, p5, p6, p7, p8⟩ := mdOk_parts hm
  have hl : ws.length ≤ m.facts.length := nodup_len m.facts.length ws hnd hw
  have hl1 : 1 ≤ ws.length := by cases ws with
    | nil => cases ha
    | cons x r => simp
  rw [← specOk_mdOk]
  unfold specOk inB
  simp only [Bool.and_eq_true, decide_eq_true_eq, List.all_eq_true, List.mem_range, beq_iff_eq]
  have hfl : (restM m ws).facts.length = ws.length := pick_len _ _
  have hbl : (restM m ws).blocks.length = m.blocks.length := by unfold restM; simp [rawRows_len]
  rw [hfl, hbl]
  have hc : (nums ws).contains m.actual = true := nums_contains.2 ⟨_, ha, by omega⟩
  have hact : (restM m ws).actual = ((nums ws).idxOf m.actual : Nat) := by
    show actIn m.actual ws = _
    unfold actIn; rw [if_pos hc]
  have hidx : (nums ws).idxOf m.actual < ws.length := by
    have := List.idxOf_lt_length_of_mem (List.contains_iff_mem.1 hc)
    rwa [nums_len] at this
  refine ⟨⟨⟨⟨⟨hl1, by omega⟩, p3, p4⟩, by rw [hact]; omega, by rw [hact]; omega⟩, fun j hj => ?_⟩, fun k hk => ?_⟩
  · have e : (restM m ws).facts.getD j 0 = m.facts.getD (ws.getD j 0) 0 := by
      show (pick m.facts ws).getD j 0 = _
      unfold pick
      rw [List.getD_eq_getElem?_getD, List.getElem?_map, List.getElem?_eq_getElem hj, List.getD_eq_getElem?_getD (l := ws), List.getElem?_eq_getElem hj]; rfl
    rw [e]
    exact p6 _ (hw _ (getD_memN hj))
  · have e : (restM m ws).blocks.getD k [] = num (pick (m.blocks.getD k []) ws) := by
      show ((rawRows m ws).map num).getD k [] = _
      rw [List.getD_eq_getElem?_getD, List.getElem?_map, ← rawRows_get m ws hk, List.getD_eq_getElem?_getD, List.getElem?_eq_getElem (by rw [rawRows_len]; exact hk)]; rfl
    rw [e]
    exact ⟨by rw [num_len, pick_len], num_ord _⟩
theorem lst_all {n : Nat} (h : n ≤ 16) : lst (fun i => decide (i < n)) 16 = List.range n := by
  rw [lst_16 (fun i hi => of_decide_eq_true hi) h]
  unfold lst
  rw [List.filter_eq_self]
  exact fun i hi => decide_eq_true (List.mem_range.1 hi)
end Go.Proofs.YtodjohdbngbpaaaGreat
