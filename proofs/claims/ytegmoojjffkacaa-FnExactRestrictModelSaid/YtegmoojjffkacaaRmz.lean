/-
  What RestrictModel answers, in mathematics. No program but its types' numbers.
-/
import Derived.Test.YtegmoojjffkacaaRst
import Derived.Test.YtegmoojjffkacaaSbi
namespace Go.Proofs.Ytegmoojjffkacaa
open Go.RowKit Go.WideShapes
open Go Go.Deep
set_option linter.unusedSimpArgs false

theorem sorted_ext : ∀ (a b : List Int), a.Pairwise (· < ·) → b.Pairwise (· < ·) → (∀ x, x ∈ a ↔ x ∈ b) → a = b
  | [], [], _, _, _ => rfl
  | [], y :: b, _, _, h => by have := (h y).2 (List.mem_cons_self ..); simp at this
  | x :: a, [], _, _, h => by have := (h x).1 (List.mem_cons_self ..); simp at this
  | x :: a, y :: b, ha, hb, h => by
    obtain ⟨ha1, ha2⟩ := List.pairwise_cons.1 ha
    obtain ⟨hb1, hb2⟩ := List.pairwise_cons.1 hb
    have e : x = y := by
      have h1 := (h x).1 (List.mem_cons_self ..)
      have h2 := (h y).2 (List.mem_cons_self ..)
      rcases List.mem_cons.1 h1 with h1 | h1
      · exact h1
      · rcases List.mem_cons.1 h2 with h2 | h2
        · exact h2.symm
        · have := ha1 y h2; have := hb1 x h1; omega
    subst e
    rw [sorted_ext a b ha2 hb2 (fun z => ⟨fun hz => ?_, fun hz => ?_⟩)]
    · rcases List.mem_cons.1 ((h z).1 (List.mem_cons_of_mem _ hz)) with e | e
      · subst e; have := ha1 z hz; omega
      · exact e
    · rcases List.mem_cons.1 ((h z).2 (List.mem_cons_of_mem _ hz)) with e | e
      · subst e; have := hb1 z hz; omega
      · exact e
theorem okTo_lt {l : List Int} {n : Int} (h : okTo l n l.length) : ∀ j i, i < j → j < l.length → l.getD i 0 < l.getD j 0
  | 0, _, h1, _ => by omega
  | j + 1, i, h1, h2 => by
    have h3 := (h (j + 1) h2).1
    rw [bef_succ] at h3
    rcases Nat.lt_or_eq_of_le (Nat.le_of_lt_succ h1) with h4 | h4
    · have := okTo_lt h j i h4 (by omega); omega
    · subst h4; exact h3
theorem asc_lst {l : List Int} {n : Nat} (h : ascOk l n = true) (hn : n ≤ 16) : nums (lst (memP l) 16) = l := by
  have hok : okTo l n l.length := of_decide_eq_true h
  have hbd : ∀ x ∈ l, 0 ≤ x ∧ x < 16 := fun x hx => by
    obtain ⟨j, hj, rfl⟩ := List.getElem_of_mem hx
    have h1 := hok j hj
    have h2 := bef_low (l := l) (n := n) (k := j) (fun i hi => hok i (by omega))
    rw [List.getD_eq_getElem?_getD, List.getElem?_eq_getElem hj] at h1
    simp only [Option.getD_some] at h1
    omega
  refine sorted_ext _ _ ?_ ?_ (fun x => ?_)
  · unfold nums lst
    rw [List.pairwise_map]
    exact (List.Pairwise.filter _ List.pairwise_lt_range).imp (fun h => by simpa using h)
  · rw [List.pairwise_iff_getElem]
    intro i j hi hj hij
    have := okTo_lt hok j i hij hj
    rw [List.getD_eq_getElem?_getD, List.getD_eq_getElem?_getD, List.getElem?_eq_getElem hi, List.getElem?_eq_getElem hj] at this
    exact this
  · unfold nums
    rw [List.mem_map]
    constructor
    · rintro ⟨i, hi, rfl⟩
      exact of_decide_eq_true (mem_lst.1 hi).2
    · intro hx
      have := hbd x hx
      exact ⟨x.toNat, mem_lst.2 ⟨by omega, decide_eq_true (by rw [Int.toNat_of_nonneg this.1]; exact hx)⟩, Int.toNat_of_nonneg this.1⟩
theorem memP_bd {l : List Int} {n : Nat} (h : ascOk l n = true) : ∀ i, memP l i = true → i < n := fun i hi => by
  have hok : okTo l n l.length := of_decide_eq_true h
  obtain ⟨j, hj, e⟩ := List.getElem_of_mem (of_decide_eq_true hi)
  have h1 := hok j hj
  rw [List.getD_eq_getElem?_getD, List.getElem?_eq_getElem hj] at h1
  simp only [Option.getD_some] at h1
  omega
/-- what RestrictModel answers -/
def restrR (m : Md) (l : List Int) : Option Md := if mdOk m && ascOk l m.facts.length && l.contains m.actual then some (restM m (lst (memP l) 16)) else none
theorem rest_fits {m : Md} (h : mdOk m = true) (ws : List Nat) (hw : ws.length ≤ 16) : fits (restM m ws) := by
  obtain ⟨p1, p2, p3, p4, _⟩ := mdOk_parts h
  unfold restM
  refine ⟨by rw [pick_len]; exact hw, by rw [List.length_map, rawRows_len]; exact p4, fun k hk => ?_⟩
  simp only [List.length_map, rawRows_len] at hk
  rw [pick_len, List.getD_eq_getElem?_getD, List.getElem?_map]
  have := rawRows_get m ws hk
  rw [List.getD_eq_getElem?_getD] at this
  rw [List.getElem?_eq_getElem (by rw [rawRows_len]; exact hk)] at this ⊢
  simp only [Option.map_some, Option.getD_some] at this ⊢
  rw [num_len, this, pick_len]
theorem rest_size (m : Md) (l : List Int) : msize ((restrR m l).getD ⟨[], [], 0⟩) + ((restrR m l).getD ⟨[], [], 0⟩).blocks.length ≤ 1048576 := by
  unfold restrR
  split
  · rename_i h
    simp only [Bool.and_eq_true] at h
    exact fits_size (rest_fits h.1.1 _ (lst_len _ _))
  · decide

end Go.Proofs.Ytegmoojjffkacaa
