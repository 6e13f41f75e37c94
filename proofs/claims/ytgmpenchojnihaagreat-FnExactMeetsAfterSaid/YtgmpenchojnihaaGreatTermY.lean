/-
  Contracts of depthOfTerm (by the term), spec.l02Text and spec.l02Depth (by the node).
-/
import Derived.Test.YtgmpenchojnihaaGreatTermX
namespace Go.Proofs.YtgmpenchojnihaaGreat
open Go.RowKit
open Go Go.Deep

/-- a world that has kept all up to a local node -/
theorem node_kept {w w2 : World} {c : Array Value} {T : TypeId} (hb : Below (w.alloc (.cells c T)).heap.size (w.alloc (.cells c T)) w2) (k : Nat) : w2.cell? ⟨w.heap.size, k, none⟩ = c[k]? := by
  rw [hb.cell (p := ⟨w.heap.size, k, none⟩) (by simp), World.cell?_alloc_at _ _ _ _ rfl]

end Go.Proofs.YtgmpenchojnihaaGreat
