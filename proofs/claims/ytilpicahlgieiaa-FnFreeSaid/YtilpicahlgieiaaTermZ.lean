/-
  Contract of spec.l02Text (by the node).
-/
import Derived.Test.YtilpicahlgieiaaTermX
import Derived.Test.YtilpicahlgieiaaNumA
namespace Go.Proofs.Ytilpicahlgieiaa
open Go.RowKit
open Go Go.Deep

theorem node_keptZ {w w2 : World} {c : Array Value} {T : TypeId} (hb : Below (w.alloc (.cells c T)).heap.size (w.alloc (.cells c T)) w2) (k : Nat) : w2.cell? ⟨w.heap.size, k, none⟩ = c[k]? := by
  rw [hb.cell (p := ⟨w.heap.size, k, none⟩) (by simp), World.cell?_alloc_at _ _ _ _ rfl]

end Go.Proofs.Ytilpicahlgieiaa
