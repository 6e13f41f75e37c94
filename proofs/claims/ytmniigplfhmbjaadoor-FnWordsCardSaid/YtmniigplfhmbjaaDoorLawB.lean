/-
  The walk of the law FnExactSplitAny: it returns true and writes nothing that was there. No condition.
-/
import Derived.Test.YtmniigplfhmbjaaDoorSplitA
import Derived.Test.YtmniigplfhmbjaaDoorStrs
namespace Go.Proofs.YtmniigplfhmbjaaDoor
open Go.RowKit
open Go Go.Deep

theorem splitAll_len (by' : List UInt8) (s : ByteArray) (h : s.size ≤ 1048576) : (splitAll by' s).length ≤ 2097152 := by
  have := (splitTo_le by' s s.size).2
  unfold splitAll; simp; omega

end Go.Proofs.YtmniigplfhmbjaaDoor
