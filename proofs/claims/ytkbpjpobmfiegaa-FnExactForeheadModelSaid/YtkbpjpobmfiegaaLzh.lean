/-
  The walk of the law FnExactForeheadModel: it returns true and writes nothing that was there. No condition.
-/
import Derived.Test.YtkbpjpobmfiegaaFhi
namespace Go.Proofs.Ytkbpjpobmfiegaa
open Go.RowKit Go.WideShapes
open Go Go.Deep

set_option maxRecDepth 100000 in
set_option maxHeartbeats 16000000 in
theorem walk_FnExactForeheadModel (x : Int) (y : Int) (w : World) (_h0 : (Lit.int .i64 x).wf = true) (_h1 : (Lit.int .i64 y).wf = true) :
    Calls Try.prog 3 #[.int .i64 x, .int .i64 y] w fun e w' => e = .returned (.bool true) ∧ Below w.heap.size w w' := by
  have KS := Lib.hid (fun W => specFore_any x y W)
  have KI := Lib.hid (fun W => implFore_any x y W)
  have HMR := Lib.hid (fore_size x y)
  unfold MdAns2 at KS KI
  generalize (foreR x y).getD ⟨[], [], 0⟩ = mr at *
  generalize (foreR x y).isSome = ok at *
  go_enter Try.func3, Try.ntmps3
  have B0 : Hid (Below w.heap.size w w) := Lib.hid (Below.refl _ _)
  go_wp2_with fail
  refine (KS.out  _ ).mono ?_
  rintro e w1 ⟨v1, rfl, ho1, hb1⟩
  have B1 : Hid (Below w.heap.size w w1) := Lib.hid (B0.out.trans (hb1.mono B0.out.size))
  clear B0
  have Z1 : Hid (w.heap.size ≤ w1.heap.size) := Lib.hid hb1.size
  have V2 := Lib.hid ho1
  clear ho1 hb1
  obtain ⟨fa1, fc1, ba1, bc1, e1⟩ := V2.out.read.form
  subst e1
  go_wp2_with fail
  have W3 := Lib.hid (Mcell.new (w := w1) (T := 25) (b := w1.heap.size) (fv := .slice fa1 mr.facts.length fc1) (bv := .slice ba1 mr.blocks.length bc1) (n := mr.actual) rfl)
  have hb2 : Below w1.heap.size w1 (w1.alloc (.cells #[.slice fa1 mr.facts.length fc1, .slice ba1 mr.blocks.length bc1, .int .i64 mr.actual] 25)) := by go_grown
  have hz2 : (w1.alloc (.cells #[.slice fa1 mr.facts.length fc1, .slice ba1 mr.blocks.length bc1, .int .i64 mr.actual] 25)).heap.size = w1.heap.size + 1 := by simp
  generalize w1.alloc (.cells #[.slice fa1 mr.facts.length fc1, .slice ba1 mr.blocks.length bc1, .int .i64 mr.actual] 25) = w2 at *
  have B4 : Hid (Below w.heap.size w w2) := Lib.hid (B1.out.trans (hb2.mono B1.out.size))
  have V5 := Lib.hid (V2.out.keeps (Keeps.of_all hb2))
  clear B1 V2
  have Z2 := Lib.hid hz2
  clear hb2 hz2
  refine (KI.out  _ ).mono ?_
  rintro e w3 ⟨v3, rfl, ho3, hb3⟩
  have B6 : Hid (Below w.heap.size w w3) := Lib.hid (B4.out.trans (hb3.mono B4.out.size))
  have V7 := Lib.hid (V5.out.keeps (Keeps.of_all hb3))
  have W8 := Lib.hid (W3.out.below hb3)
  clear B4 V5 W3
  have Z3 : Hid (w2.heap.size ≤ w3.heap.size) := Lib.hid hb3.size
  have S9 := Lib.hid ho3
  clear ho3 hb3
  obtain ⟨fa3, fc3, ba3, bc3, e3⟩ := S9.out.read.form
  subst e3
  obtain ⟨wc0, wc1, wc2, _⟩ := W8.out
  have wlt := W8.out.lt
  go_wp2_with fail
  clear wc0 wc1 wc2 wlt
  have Sb10 := Lib.hid (Mcell.new (w := w3) (T := 25) (b := w3.heap.size) (fv := .slice fa3 mr.facts.length fc3) (bv := .slice ba3 mr.blocks.length bc3) (n := mr.actual) rfl)
  have hb4 : Below w3.heap.size w3 (w3.alloc (.cells #[.slice fa3 mr.facts.length fc3, .slice ba3 mr.blocks.length bc3, .int .i64 mr.actual] 25)) := by go_grown
  have hz4 : (w3.alloc (.cells #[.slice fa3 mr.facts.length fc3, .slice ba3 mr.blocks.length bc3, .int .i64 mr.actual] 25)).heap.size = w3.heap.size + 1 := by simp
  generalize w3.alloc (.cells #[.slice fa3 mr.facts.length fc3, .slice ba3 mr.blocks.length bc3, .int .i64 mr.actual] 25) = w4 at *
  have B11 : Hid (Below w.heap.size w w4) := Lib.hid (B6.out.trans (hb4.mono B6.out.size))
  have V12 := Lib.hid (V7.out.keeps (Keeps.of_all hb4))
  have W13 := Lib.hid (W8.out.below hb4)
  have S14 := Lib.hid (S9.out.keeps (Keeps.of_all hb4))
  clear B6 V7 W8 S9
  have Z4 := Lib.hid hz4
  clear hb4 hz4
  refine (eqModel_same _ _ _ _ _ _ mr _ S14.out.read V12.out.read).mono ?_
  rintro e w5 ⟨rfl, hb5⟩
  have B15 : Hid (Below w.heap.size w w5) := Lib.hid (B11.out.trans (hb5.mono B11.out.size))
  have V16 := Lib.hid (V12.out.keeps (Keeps.of_all hb5))
  have W17 := Lib.hid (W13.out.below hb5)
  have S18 := Lib.hid (S14.out.keeps (Keeps.of_all hb5))
  have Sb19 := Lib.hid (Sb10.out.below hb5)
  clear B11 V12 W13 S14 Sb10
  have Z5 : Hid (w4.heap.size ≤ w5.heap.size) := Lib.hid hb5.size
  clear hb5
  obtain ⟨sbc0, sbc1, sbc2, _⟩ := Sb19.out
  have sblt := Sb19.out.lt
  go_wp2_with fail
  clear sbc0 sbc1 sbc2 sblt
  refine (markModel_own _ _ _ _ 1 _ HMR.out (by omega) (by have z1 := Z1.out; have z2 := Z2.out; have z3 := Z3.out; have z4 := Z4.out; have z5 := Z5.out; omega) S18.out).mono ?_
  rintro e w6 ⟨rfl, hm6, ht6⟩
  have H20 := Lib.hid hm6
  clear hm6
  clear S18
  have B21 : Hid (Below w.heap.size w w6) := Lib.hid (B15.out.trans (ht6.below (by have z1 := Z1.out; have z2 := Z2.out; have z3 := Z3.out; have z4 := Z4.out; have z5 := Z5.out; omega) B15.out.size))
  have V22 := Lib.hid (V16.out.keeps (ht6.keeps (by have z1 := Z1.out; have z2 := Z2.out; have z3 := Z3.out; have z4 := Z4.out; have z5 := Z5.out; omega)))
  have W23 := Lib.hid (W17.out.of_block (ht6.block _ W17.out.lt (by have z1 := Z1.out; have z2 := Z2.out; have z3 := Z3.out; have z4 := Z4.out; have z5 := Z5.out; omega)))
  have Sb24 := Lib.hid (Sb19.out.of_block (ht6.block _ Sb19.out.lt (by have z1 := Z1.out; have z2 := Z2.out; have z3 := Z3.out; have z4 := Z4.out; have z5 := Z5.out; omega)))
  clear B15 V16 W17 Sb19
  have Z6 : Hid (w5.heap.size ≤ w6.heap.size) := Lib.hid ht6.size
  clear ht6
  obtain ⟨sbc0, sbc1, sbc2, _⟩ := Sb24.out
  have sblt := Sb24.out.lt
  go_wp2_with fail
  clear sbc0 sbc1 sbc2 sblt
  refine (heldModel_any _ _ _ mr 1 _ HMR.out (by omega) H20.out.read).mono ?_
  rintro e w7 ⟨rfl, hb7⟩
  have B25 : Hid (Below w.heap.size w w7) := Lib.hid (B21.out.trans (hb7.mono B21.out.size))
  have V26 := Lib.hid (V22.out.keeps (Keeps.of_all hb7))
  have W27 := Lib.hid (W23.out.below hb7)
  have Sb28 := Lib.hid (Sb24.out.below hb7)
  have H29 := Lib.hid (H20.out.keeps (Keeps.of_all hb7))
  clear B21 V22 W23 Sb24 H20
  have Z7 : Hid (w6.heap.size ≤ w7.heap.size) := Lib.hid hb7.size
  clear hb7
  go_wp2_with fail
  refine (KI.out  _ ).mono ?_
  rintro e w8 ⟨v8, rfl, ho8, hb8⟩
  have B30 : Hid (Below w.heap.size w w8) := Lib.hid (B25.out.trans (hb8.mono B25.out.size))
  have V31 := Lib.hid (V26.out.keeps (Keeps.of_all hb8))
  have W32 := Lib.hid (W27.out.below hb8)
  have Sb33 := Lib.hid (Sb28.out.below hb8)
  have H34 := Lib.hid (H29.out.keeps (Keeps.of_all hb8))
  clear B25 V26 W27 Sb28 H29
  have Z8 : Hid (w7.heap.size ≤ w8.heap.size) := Lib.hid hb8.size
  have O35 := Lib.hid ho8
  clear ho8 hb8
  obtain ⟨fa8, fc8, ba8, bc8, e8⟩ := O35.out.read.form
  subst e8
  obtain ⟨wc0, wc1, wc2, _⟩ := W32.out
  have wlt := W32.out.lt
  go_wp2_with fail
  clear wc0 wc1 wc2 wlt
  have Ob36 := Lib.hid (Mcell.new (w := w8) (T := 25) (b := w8.heap.size) (fv := .slice fa8 mr.facts.length fc8) (bv := .slice ba8 mr.blocks.length bc8) (n := mr.actual) rfl)
  have hb9 : Below w8.heap.size w8 (w8.alloc (.cells #[.slice fa8 mr.facts.length fc8, .slice ba8 mr.blocks.length bc8, .int .i64 mr.actual] 25)) := by go_grown
  have hz9 : (w8.alloc (.cells #[.slice fa8 mr.facts.length fc8, .slice ba8 mr.blocks.length bc8, .int .i64 mr.actual] 25)).heap.size = w8.heap.size + 1 := by simp
  generalize w8.alloc (.cells #[.slice fa8 mr.facts.length fc8, .slice ba8 mr.blocks.length bc8, .int .i64 mr.actual] 25) = w9 at *
  have B37 : Hid (Below w.heap.size w w9) := Lib.hid (B30.out.trans (hb9.mono B30.out.size))
  have V38 := Lib.hid (V31.out.keeps (Keeps.of_all hb9))
  have W39 := Lib.hid (W32.out.below hb9)
  have Sb40 := Lib.hid (Sb33.out.below hb9)
  have H41 := Lib.hid (H34.out.keeps (Keeps.of_all hb9))
  have O42 := Lib.hid (O35.out.keeps (Keeps.of_all hb9))
  clear B30 V31 W32 Sb33 H34 O35
  have Z9 := Lib.hid hz9
  clear hb9 hz9
  refine (eqModel_same _ _ _ _ _ _ mr _ O42.out.read V38.out.read).mono ?_
  rintro e w10 ⟨rfl, hb10⟩
  have B43 : Hid (Below w.heap.size w w10) := Lib.hid (B37.out.trans (hb10.mono B37.out.size))
  have V44 := Lib.hid (V38.out.keeps (Keeps.of_all hb10))
  have W45 := Lib.hid (W39.out.below hb10)
  have Sb46 := Lib.hid (Sb40.out.below hb10)
  have H47 := Lib.hid (H41.out.keeps (Keeps.of_all hb10))
  have O48 := Lib.hid (O42.out.keeps (Keeps.of_all hb10))
  have Ob49 := Lib.hid (Ob36.out.below hb10)
  clear B37 V38 W39 Sb40 H41 O42 Ob36
  have Z10 : Hid (w9.heap.size ≤ w10.heap.size) := Lib.hid hb10.size
  clear hb10
  obtain ⟨sbc0, sbc1, sbc2, _⟩ := Sb46.out
  have sblt := Sb46.out.lt
  go_wp2_with fail
  clear sbc0 sbc1 sbc2 sblt
  refine (heldModel_any _ _ _ mr 1 _ HMR.out (by omega) H47.out.read).mono ?_
  rintro e w11 ⟨rfl, hb11⟩
  have B50 : Hid (Below w.heap.size w w11) := Lib.hid (B43.out.trans (hb11.mono B43.out.size))
  have V51 := Lib.hid (V44.out.keeps (Keeps.of_all hb11))
  have W52 := Lib.hid (W45.out.below hb11)
  have Sb53 := Lib.hid (Sb46.out.below hb11)
  have H54 := Lib.hid (H47.out.keeps (Keeps.of_all hb11))
  have O55 := Lib.hid (O48.out.keeps (Keeps.of_all hb11))
  have Ob56 := Lib.hid (Ob49.out.below hb11)
  clear B43 V44 W45 Sb46 H47 O48 Ob49
  have Z11 : Hid (w10.heap.size ≤ w11.heap.size) := Lib.hid hb11.size
  clear hb11
  go_wp2
  go_ret
  exact ⟨rfl, B50.out⟩
end Go.Proofs.Ytkbpjpobmfiegaa
