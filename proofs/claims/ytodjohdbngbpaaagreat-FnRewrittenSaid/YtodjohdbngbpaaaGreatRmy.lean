/-
  Lists of worlds and sets of worlds: what RestrictModel answers for the list of a set. No program.
-/
import Derived.Test.YtodjohdbngbpaaaGreatZSem
namespace Go.Proofs.YtodjohdbngbpaaaGreat
open Go.RowKit Go.WideShapes
open Go Go.Deep
set_option linter.unusedSimpArgs false

theorem getD_nums {ws : List Nat} {j : Nat} (h : j < ws.length) : (nums ws).getD j 0 = ((ws.getD j 0 : Nat) : Int) := by
  rw [nums_getD h, List.getD_eq_getElem?_getD, List.getElem?_eq_getElem h]; rfl
theorem mem_nums {ws : List Nat} {x : Int} : x ∈ nums ws ↔ ∃ i ∈ ws, (i : Int) = x := by
  unfold nums; rw [List.mem_map]; rfl
theorem lst_asc {R : Nat → Bool} {n : Nat} (h : ∀ i, R i = true → i < n) : ascOk (nums (lst R 16)) n = true := by
  refine decide_eq_true fun j hj => ?_
  rw [nums_len] at hj
  have hp : (lst R 16).Pairwise (· < ·) := List.Pairwise.sublist List.filter_sublist List.pairwise_lt_range
  rw [getD_nums hj]
  have hm : (lst R 16).getD j 0 ∈ lst R 16 := by rw [List.getD_eq_getElem?_getD, List.getElem?_eq_getElem hj]; exact List.getElem_mem _
  refine ⟨?_, by have := h _ (mem_lst.1 hm).2; omega⟩
  unfold bef
  split
  · omega
  · rw [getD_nums (by omega)]
    rw [List.pairwise_iff_getElem] at hp
    have := hp (j - 1) j (by omega) hj (by omega)
    rw [List.getD_eq_getElem?_getD, List.getElem?_eq_getElem (by omega), List.getD_eq_getElem?_getD, List.getElem?_eq_getElem hj]
    simp only [Option.getD_some]
    omega
theorem lst_mem {R : Nat → Bool} : lst (memP (nums (lst R 16))) 16 = lst R 16 := by
  refine lst_congr fun i hi => ?_
  unfold memP
  rw [Bool.eq_iff_iff, decide_eq_true_eq, mem_nums]
  constructor
  · rintro ⟨j, hj, e⟩
    have : j = i := by omega
    subst this
    exact (mem_lst.1 hj).2
  · exact fun h => ⟨i, mem_lst.2 ⟨hi, h⟩, rfl⟩
theorem restr_lst {m : Md} {R : Nat → Bool} (hm : mdOk m = true) (h : ∀ i, R i = true → i < m.facts.length) (ha : R m.actual.toNat = true) : restrR m (nums (lst R 16)) = some (restM m (lst R 16)) := by
  obtain ⟨p1, p2, p3, p4, p5, p6, p7, p8⟩ := mdOk_parts hm
  unfold restrR
  have hc : (nums (lst R 16)).contains m.actual = true := nums_contains.2 ⟨m.actual.toNat, mem_lst.2 ⟨by omega, ha⟩, by omega⟩
  rw [hm, lst_asc h, hc, lst_mem]; rfl
end Go.Proofs.YtodjohdbngbpaaaGreat
