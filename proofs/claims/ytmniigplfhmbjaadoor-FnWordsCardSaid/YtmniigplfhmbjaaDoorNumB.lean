/-
  impl.FormatInt returns the decimal numeral (it reads a table of the library's: a premise); the walk of the law FnExactFormatInt.
-/
import Derived.Test.YtmniigplfhmbjaaDoorNumA
import Derived.Test.YtmniigplfhmbjaaDoorShelf
import Derived.Lib.LaidTab
import Derived.LaidSub
import Derived.WalkSmall
import Derived.OpenShut
namespace Go.Proofs.YtmniigplfhmbjaaDoor
open Go.RowKit
open Go

def powName : String := "internal/strconv.uint64pow10"
def Tab (w : World) : Prop := Lib.TabIs Tryd.prog w "internal/strconv.uint64pow10" .u64 Lib.pow10Tab
theorem gPow : Tryd.prog.globalNamed "internal/strconv.uint64pow10" = some 2 := by kernel_rfl
theorem Tab.below {w w' : World} {B : Nat} (h : Tab w) (hb : Below B w w') (hB : w.heap.size ≤ B) : Tab w' := by
  have hc := h.cell gPow 0 (by decide)
  have hlt := World.block_lt_of_cell? w _ hc
  exact var?_below hb gPow (Nat.lt_of_lt_of_le hlt hB) h
theorem below_grow (w : World) (k : Nat) (os : Array Obj) : Below w.heap.size w (Go.Sort.grow (w.drewN k) os) := by
  refine ⟨rfl, rfl, rfl, ?_, fun i hi => ?_⟩
  · show w.heap.size ≤ (w.heap ++ os).size
    simp
  · show (w.heap ++ os)[i]? = w.heap[i]?
    rw [Array.getElem?_append_left hi]

set_option maxHeartbeats 400000 in
theorem implFormat_any (n : Int) (w : World) (h0 : -9223372036854775808 ≤ n) (h1 : n ≤ 9223372036854775807) (ht : Tab w) :
    Calls Tryd.prog 8 #[.int .i64 n] w fun e w' => e = .returned (.string ⟨(Lib.itoa n).toArray⟩) ∧ Below w.heap.size w w' := by
  have H := Lib.hid (Tryd.strconv_Itoa n h0 h1 w ht)
  generalize (Lib.itoa n).toArray = l at H
  clear ht
  go_enter Tryd.func8, Tryd.ntmps8
  go_wp2_with fail
  refine H.out.mono ?_
  rintro e w' ⟨rfl, k, os, rfl⟩
  go_wp2
  go_ret
  exact ⟨rfl, below_grow _ _ _⟩

theorem tab_FormatInt {w : World} (hL : laidMetH Tryd.prog Rows.fnExactFormatIntRow.laid w) : Tab w :=
  Lib.tabIs_of_head (rest := []) (t := 83) gPow (by kernel_rfl) Tryd.underlying83 Tryd.underlying64 (by kernel_rfl) (by kernel_rfl) (hL.filter (fun x => x.1 == "internal/strconv.uint64pow10"))

set_option maxHeartbeats 400000 in
theorem walk_FnExactFormatInt (a0 : Int) (w : World) (w0 : (Lit.int .i64 a0).wf = true) (hL : laidMetH Tryd.prog Rows.fnExactFormatIntRow.laid w) :
    Calls Tryd.prog 4 #[.int .i64 a0] w fun e w' => e = .returned (.bool true) ∧ Below w.heap.size w w' := by
  have ht := Lib.hid (tab_FormatInt hL)
  have hb : -9223372036854775808 ≤ a0 ∧ a0 ≤ 9223372036854775807 := bounds_i64 w0
  obtain ⟨hb0, hb1⟩ := hb
  clear hL w0
  have S := Lib.hid (fun W => specFormat_any a0 W hb0 hb1)
  have I := Lib.hid (fun W hT => implFormat_any a0 W hb0 hb1 hT)
  generalize (Lib.itoa a0).toArray = l at S I
  go_enter Tryd.func4, Tryd.ntmps4
  go_wp2_with fail
  refine (S.out _).mono ?_
  rintro e w1 ⟨rfl, h1⟩
  have B1 := Lib.hid h1; clear h1
  go_wp2_with fail
  refine (I.out _ (ht.out.below B1.out (Nat.le_refl _))).mono ?_
  rintro e w2 ⟨rfl, h2⟩
  have B2 := Lib.hid h2; clear h2
  have hsz : w.heap.size ≤ w1.heap.size := B1.out.size
  go_wp2
  go_ret
  exact ⟨rfl, B1.out.trans (B2.out.mono hsz)⟩
end Go.Proofs.YtmniigplfhmbjaaDoor
