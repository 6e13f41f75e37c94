/-
  The walk of the law FnExactDealOk: it returns true and writes nothing that was there. No condition.
-/
import Derived.Test.YteahjnobnbafiaaDcl
import Derived.Test.YteahjnobnbafiaaCdr
import Derived.Test.YteahjnobnbafiaaCin
namespace Go.Proofs.Yteahjnobnbafiaa
open Go.RowKit Go.WideShapes
open Go Go.Deep

set_option maxRecDepth 100000 in
set_option maxHeartbeats 16000000 in
theorem walk_FnExactDealOk (v00 : Value) (d : Dl) (w : World) (h0 : Dv v00 d) :
    Calls Try.prog 3 #[v00] w fun e w' => e = .returned (.bool true) ∧ Below w.heap.size w w' := by
  obtain ⟨rfl, hp0⟩ := h0
  have HP0 := Lib.hid hp0
  clear hp0
  unfold Dl.v
  have KS := Lib.hid (fun W => specDeal_any d W)
  have KI := Lib.hid (fun W => implDeal_any d W)
  unfold Dl.v at KS KI
  generalize dealR d = R at *
  go_enter Try.func3, Try.ntmps3
  have B0 : Hid (Below w.heap.size w w) := Lib.hid (Below.refl _ _)
  go_wp2_with fail
  have A1 := Lib.hid (Dcell.new w d 23)
  have hb1 : Below w.heap.size w (w.alloc (.cells #[.int .i64 d.a, .int .i64 d.b, .int .i64 d.c] 23)) := by go_grown
  have hz1 : (w.alloc (.cells #[.int .i64 d.a, .int .i64 d.b, .int .i64 d.c] 23)).heap.size = w.heap.size + 1 := by simp
  generalize w.alloc (.cells #[.int .i64 d.a, .int .i64 d.b, .int .i64 d.c] 23) = w1 at *
  have B2 : Hid (Below w.heap.size w w1) := Lib.hid (B0.out.trans (hb1.mono B0.out.size))
  clear B0
  have Z1 := Lib.hid hz1
  clear hb1 hz1
  obtain ⟨ac0, ac1, ac2, alt⟩ := A1.out
  clear ac0 ac1 ac2 alt
  refine (toDeal_any d _).mono ?_
  rintro e w2 ⟨rfl, hb2⟩
  have B3 : Hid (Below w.heap.size w w2) := Lib.hid (B2.out.trans (hb2.mono B2.out.size))
  have A4 := Lib.hid (A1.out.below hb2)
  clear B2 A1
  have Z2 : Hid (w1.heap.size ≤ w2.heap.size) := Lib.hid hb2.size
  clear hb2
  try unfold Dl.v
  go_wp2_with fail
  refine (KS.out _).mono ?_
  rintro e w3 ⟨rfl, hb3⟩
  have B5 : Hid (Below w.heap.size w w3) := Lib.hid (B3.out.trans (hb3.mono B3.out.size))
  have A6 := Lib.hid (A4.out.below hb3)
  clear B3 A4
  have Z3 : Hid (w2.heap.size ≤ w3.heap.size) := Lib.hid hb3.size
  clear hb3
  obtain ⟨ac0, ac1, ac2, alt⟩ := A6.out
  go_wp2_with fail
  clear ac0 ac1 ac2 alt
  refine (toDeal_any d _).mono ?_
  rintro e w4 ⟨rfl, hb4⟩
  have B7 : Hid (Below w.heap.size w w4) := Lib.hid (B5.out.trans (hb4.mono B5.out.size))
  have A8 := Lib.hid (A6.out.below hb4)
  clear B5 A6
  have Z4 : Hid (w3.heap.size ≤ w4.heap.size) := Lib.hid hb4.size
  clear hb4
  try unfold Dl.v
  go_wp2_with fail
  refine (KI.out _).mono ?_
  rintro e w5 ⟨rfl, hb5⟩
  have B9 : Hid (Below w.heap.size w w5) := Lib.hid (B7.out.trans (hb5.mono B7.out.size))
  have A10 := Lib.hid (A8.out.below hb5)
  clear B7 A8
  have Z5 : Hid (w4.heap.size ≤ w5.heap.size) := Lib.hid hb5.size
  clear hb5
  go_wp2
  go_ret
  exact ⟨rfl, B9.out⟩
end Go.Proofs.Yteahjnobnbafiaa
