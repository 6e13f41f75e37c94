/- Tzb -/
import Derived.Test.YtnpfnfenkklocaaGreatDoorRows
import Derived.Test.YtnpfnfenkklocaaGreatDoorChecked
import Derived.Shelf.Spec.TrailingZeros
import Derived.Lib.LaidTab
import Derived.Lib.Hide
import Derived.LaidSub
import Derived.WalkSmall
set_option maxRecDepth 100000
set_option maxHeartbeats 64000000
namespace Go.Proofs.YtnpfnfenkklocaaGreatDoor
open Go.RowKit
open Go
set_option linter.unusedSimpArgs false
def BTab (w : World) : Prop := Lib.TabIs Tryz.prog w "math/bits.deBruijn64tab" .u8 (Lib.deBruijn64tab.map Int.ofNat)
theorem gBru : Tryz.prog.globalNamed "math/bits.deBruijn64tab" = some 1 := by kernel_rfl
theorem BTab.below {w w' : World} {B : Nat} (h : BTab w) (hb : Below B w w') (hB : w.heap.size ≤ B) : BTab w' := by
  have hc := h.cell gBru 0 (by decide)
  have hlt := World.block_lt_of_cell? w _ hc
  exact var?_below hb gBru (Nat.lt_of_lt_of_le hlt hB) h
theorem BTab.at {w : World} (h : BTab w) : TabAt 1 Lib.deBruijn64tab w := fun j hj => by
  have := h.cell gBru j (by rw [List.length_map]; exact hj)
  rw [this]
  congr 2
  rw [List.getD_eq_getElem?_getD, List.getElem?_map, List.getD_eq_getElem?_getD, List.getElem?_eq_getElem hj]
  rfl
theorem tz64_own (x k idx : Nat) (w : World) (hx0 : ((x : Int) == 0) = false)
    (key : IntKind.u64.wrap (bits BinOp.and IntKind.u64 (x : Int) (IntKind.u64.wrap (-(x : Int))) * 285870213051353865) / 288230376151711744 = (idx : Int))
    (hi : idx < 64) (hk : k < 64) (hcell : w.cell? ⟨1, idx, none⟩ = some (.int .u8 k)) :
    Calls Tryz.prog 108 #[.int .u64 x] w fun e w' => e = .returned (.int .i64 k) ∧ w' = w := by
  go_enter Tryz.func108, Tryz.ntmps108
  go_wp2_with (simp only [key])
  go_ret
  exact ⟨rfl, rfl⟩
theorem tz64_full (x : Nat) (hx : x < 18446744073709551616) (hx0 : x ≠ 0) (w : World) (hT : TabAt 1 Lib.deBruijn64tab w) :
    Calls Tryz.prog 108 #[.int .u64 x] w fun e w' => e = .returned (.int .i64 (Lib.ctz 64 x)) ∧ w' = w := by
  obtain ⟨hlow, hk⟩ := Lib.lowest_bit 64 x hx0 hx
  obtain ⟨hi, htab⟩ := Lib.deBruijn64_at _ hk
  have hcell := hT _ hi
  rw [htab] at hcell
  exact tz64_own x _ _ w (by simp; omega) (tz64_key x _ hx hx0 hlow) hi hk hcell
theorem tz_full (x : Nat) (hx : x < 18446744073709551616) (hx0 : x ≠ 0) (w : World) (hT : TabAt 1 Lib.deBruijn64tab w) :
    Calls Tryz.prog 91 #[.int .u64 x] w fun e w' => e = .returned (.int .i64 (Lib.ctz 64 x)) ∧ w' = w := by
  have K := Lib.hid (tz64_full x hx hx0 w hT)
  generalize Lib.ctz 64 x = k at *
  clear hT
  go_enter Tryz.func91, Tryz.ntmps91
  go_wp2_with fail
  refine K.out.mono ?_
  rintro e w' ⟨rfl, rfl⟩
  go_wp2
  go_ret
  exact ⟨rfl, rfl⟩
theorem tab_of_laid {laid : List (String × DataW Unit)} {w : World} (hL : laidMetH Tryz.prog laid w)
    (f1 : laid.filter (fun x => x.1 == "math/bits.deBruijn64tab") = [("math/bits.deBruijn64tab", Lib.tabData .u8 (Lib.deBruijn64tab.map Int.ofNat))]) : BTab w := by
  have h1 := hL.filter (fun x => x.1 == "math/bits.deBruijn64tab")
  rw [f1] at h1
  exact Lib.tabIs_of_head (rest := []) (t := 163) gBru (by kernel_rfl) Tryz.underlying163 Tryz.underlying5 (by kernel_rfl) (by kernel_rfl) h1
theorem tab_Differs {w : World} (hL : laidMetH Tryz.prog Rows.fnDiffersRow.laid w) : BTab w := tab_of_laid hL rfl
end Go.Proofs.YtnpfnfenkklocaaGreatDoor
