/-
  Contracts of termAt and termOf; the walks of the laws FnExactFormatFormula, FnExactSameFormula, FnExactDepthOf.
-/
import Derived.Test.YtilpicahlgieiaaTermY
namespace Go.Proofs.Ytilpicahlgieiaa
open Go.RowKit
open Go Go.Deep

theorem Try.infoTm : (Try.prog.info? 52).map (fun i => (i.zero, i.size, i.bytes)) = some (some .nilIface, 1, 16) := by kernel_rfl

theorem node_kept' {w w2 : World} {c : Array Value} {T : TypeId} (hb : Below (w.alloc (.cells c T)).heap.size (w.alloc (.cells c T)) w2) (k : Nat) : w2.cell? ⟨w.heap.size, k, none⟩ = c[k]? := by
  rw [hb.cell (p := ⟨w.heap.size, k, none⟩) (by simp), World.cell?_alloc_at _ _ _ _ rfl]

end Go.Proofs.Ytilpicahlgieiaa
