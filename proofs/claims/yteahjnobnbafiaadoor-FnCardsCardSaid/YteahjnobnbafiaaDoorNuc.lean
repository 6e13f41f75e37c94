/-
  Contract of impl.FormatInt: the decimal numeral (it reads a table of the library's: a premise).
-/
import Derived.Test.YteahjnobnbafiaaDoorZCmb
import Derived.Test.YteahjnobnbafiaaDoorShelf
import Derived.Lib.LaidTab
import Derived.LaidSub
import Derived.WalkSmall
import Derived.OpenShut
namespace Go.Proofs.YteahjnobnbafiaaDoor
open Go.RowKit
open Go

def powName : String := "internal/strconv.uint64pow10"
def Tab (w : World) : Prop := Lib.TabIs Tryd.prog w "internal/strconv.uint64pow10" .u64 Lib.pow10Tab
theorem gPow : Tryd.prog.globalNamed "internal/strconv.uint64pow10" = some 0 := by kernel_rfl
theorem Tab.below {w w' : World} {B : Nat} (h : Tab w) (hb : Below B w w') (hB : w.heap.size ≤ B) : Tab w' := by
  have hc := h.cell gPow 0 (by decide)
  have hlt := World.block_lt_of_cell? w _ hc
  exact var?_below hb gPow (Nat.lt_of_lt_of_le hlt hB) h
theorem below_grow (w : World) (k : Nat) (os : Array Obj) : Below w.heap.size w (Go.Sort.grow (w.drewN k) os) := by
  refine ⟨rfl, rfl, rfl, ?_, fun i hi => ?_⟩
  · show w.heap.size ≤ (w.heap ++ os).size
    simp
  · show (w.heap ++ os)[i]? = w.heap[i]?
    rw [Array.getElem?_append_left hi]

set_option maxHeartbeats 400000 in
theorem implFormat_any (n : Int) (w : World) (h0 : -9223372036854775808 ≤ n) (h1 : n ≤ 9223372036854775807) (ht : Tab w) :
    Calls Tryd.prog 20 #[.int .i64 n] w fun e w' => e = .returned (.string ⟨(Lib.itoa n).toArray⟩) ∧ Below w.heap.size w w' := by
  have H := Lib.hid (Tryd.strconv_Itoa n h0 h1 w ht)
  generalize (Lib.itoa n).toArray = l at H
  clear ht
  go_enter Tryd.func20, Tryd.ntmps20
  go_wp2_with fail
  refine H.out.mono ?_
  rintro e w' ⟨rfl, k, os, rfl⟩
  go_wp2
  go_ret
  exact ⟨rfl, below_grow _ _ _⟩
end Go.Proofs.YteahjnobnbafiaaDoor
