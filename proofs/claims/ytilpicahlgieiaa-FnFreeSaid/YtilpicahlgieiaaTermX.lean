/-
  Contracts of textOf and depthOfTerm (by the term), spec.l02Text and spec.l02Depth (by the node).
-/
import Derived.Test.YtilpicahlgieiaaTermW
import Derived.Test.YtilpicahlgieiaaZForm
namespace Go.Proofs.Ytilpicahlgieiaa
open Go.RowKit
open Go Go.Deep

theorem PartsAre.at0 {w w' : World} {v x : Value} {l : List Value} (h : PartsAre w w' v (x :: l)) : ∃ g, v = .slice (some ⟨g, 0, none⟩) (l.length + 1) (l.length + 1) ∧ w.heap.size ≤ g ∧ g < w'.heap.size ∧ w'.cell? ⟨g, 0, none⟩ = some x := by
  obtain ⟨g, rfl, h1, h2, h3⟩ := h
  exact ⟨g, rfl, h1, h2, h3 0 (by simp)⟩

end Go.Proofs.Ytilpicahlgieiaa
