/-
  spec.WhoKnows. No condition but the readings.
-/
import Derived.Test.YthjfanhhindjlaaGreatWkn
namespace Go.Proofs.YthjfanhhindjlaaGreat
open Go.RowKit Go.WideShapes
open Go Go.Deep
set_option linter.unusedSimpArgs false

theorem blkL_sub {n k x : Nat} {bl : List Int} {rows : List (List Int)} {p : Nat → Bool} (hbl : rows.getD k [] = bl) (hn : n ≤ 16) : blkL n bl (List.replicate n true) ((List.range n).map p) x true = subB (blkB rows n k x) p := by
  rw [Bool.eq_iff_iff]
  unfold blkL subB blkB cut
  rw [hbl, List.all_eq_true, List.all_eq_true]
  have hat : ∀ v, v < n → blkAt bl (List.replicate n true) ((List.range n).map p) x true v = (!(bl.getD v 0 == bl.getD x 0) || p v) := fun v hv => by
    unfold blkAt
    rw [getD_rangeMap' hv, show (List.replicate n true).getD v false = true by rw [List.getD_eq_getElem?_getD, List.getElem?_replicate, if_pos hv]; rfl]
    cases p v <;> simp
  have hsym : ∀ v, (bl.getD v 0 == bl.getD x 0) = (bl.getD x 0 == bl.getD v 0) := fun v => Bool.eq_iff_iff.2 ⟨fun h => by rw [beq_iff_eq] at *; exact h.symm, fun h => by rw [beq_iff_eq] at *; exact h.symm⟩
  constructor
  · intro h v hv
    by_cases e : v < n
    · have := h v (List.mem_range.2 e)
      rw [hat v e, hsym] at this
      rw [decide_eq_true e, Bool.true_and]; exact this
    · rw [decide_eq_false e]; rfl
  · intro h v hv
    have hv' := List.mem_range.1 hv
    have := h v (List.mem_range.2 (by omega))
    rw [decide_eq_true hv', Bool.true_and] at this
    rw [hat v hv', hsym]; exact this
/-- a list of rows that is not empty, kept -/
theorem Ivv.kept {lo hi : Nat} {w : World} {v : Value} {ll : List (List Int)} (h : Ivv lo hi w v ll) (h0 : 0 < ll.length) : ∃ b o c, v = .slice (some ⟨b, o, none⟩) ll.length c ∧ ll.length ≤ c ∧ c ≤ maxLen ∧ ∀ W, Below w.heap.size w W → ∀ j, j < ll.length → ∃ u, W.cell? ⟨b, o + j, none⟩ = some u ∧ Iv lo hi W u (ll.getD j []) := by
  obtain ⟨a, c, rfl, h1, h2, h3⟩ := h.parts
  obtain ⟨b, o, u, rfl, -⟩ := h3 0 h0
  refine ⟨b, o, c, rfl, h1, h2, fun W hW j hj => ?_⟩
  obtain ⟨b', o', u', e, _, _, hlt, hc, hu⟩ := h3 j hj
  cases e
  exact ⟨u', (hW.cell (p := ⟨b, o + j, none⟩) hlt).trans hc, hu.keeps (Keeps.of_all hW)⟩

end Go.Proofs.YthjfanhhindjlaaGreat
