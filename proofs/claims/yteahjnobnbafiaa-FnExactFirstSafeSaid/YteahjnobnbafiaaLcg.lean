/-
  The walk of the law FnExactFirstSafe: it returns true and writes nothing that was there. No condition.
-/
import Derived.Test.YteahjnobnbafiaaDcl
import Derived.Test.YteahjnobnbafiaaCdr
import Derived.Test.YteahjnobnbafiaaCin
namespace Go.Proofs.Yteahjnobnbafiaa
open Go.RowKit Go.WideShapes
open Go Go.Deep

set_option maxRecDepth 100000 in
set_option maxHeartbeats 16000000 in
theorem walk_FnExactFirstSafe (v00 : Value) (d : Dl) (x : Int) (y : Int) (w : World) (h0 : Dv v00 d) (_h1 : (Lit.int .i64 x).wf = true) (_h2 : (Lit.int .i64 y).wf = true) :
    Calls Try.prog 9 #[v00, .int .i64 x, .int .i64 y] w fun e w' => e = .returned (.bool true) ∧ Below w.heap.size w w' := by
  obtain ⟨rfl, hp0⟩ := h0
  have HP0 := Lib.hid hp0
  clear hp0
  unfold Dl.v
  have KS := Lib.hid (fun W => specFirst_any d x y W)
  have KI := Lib.hid (fun W => implFirst_any d x y W)
  have HRL : Hid (((firstR d x y).getD []).length ≤ 1048576) := Lib.hid (Nat.le_trans (firstR_len d x y) (by decide))
  unfold Dl.v IntsOpt at KS KI
  generalize (firstR d x y).isSome = ok at *
  generalize (firstR d x y).getD [] = rl at *
  go_enter Try.func9, Try.ntmps9
  have B0 : Hid (Below w.heap.size w w) := Lib.hid (Below.refl _ _)
  go_wp2_with fail
  have A1 := Lib.hid (Dcell.new w d 23)
  have hb1 : Below w.heap.size w (w.alloc (.cells #[.int .i64 d.a, .int .i64 d.b, .int .i64 d.c] 23)) := by go_grown
  have hz1 : (w.alloc (.cells #[.int .i64 d.a, .int .i64 d.b, .int .i64 d.c] 23)).heap.size = w.heap.size + 1 := by simp
  generalize w.alloc (.cells #[.int .i64 d.a, .int .i64 d.b, .int .i64 d.c] 23) = w1 at *
  have B2 : Hid (Below w.heap.size w w1) := Lib.hid (B0.out.trans (hb1.mono B0.out.size))
  clear B0
  have Z1 := Lib.hid hz1
  clear hb1 hz1
  obtain ⟨ac0, ac1, ac2, alt⟩ := A1.out
  clear ac0 ac1 ac2 alt
  refine (toDeal_any d _).mono ?_
  rintro e w2 ⟨rfl, hb2⟩
  have B3 : Hid (Below w.heap.size w w2) := Lib.hid (B2.out.trans (hb2.mono B2.out.size))
  have A4 := Lib.hid (A1.out.below hb2)
  clear B2 A1
  have Z2 : Hid (w1.heap.size ≤ w2.heap.size) := Lib.hid hb2.size
  clear hb2
  try unfold Dl.v
  go_wp2_with fail
  refine (KS.out _).mono ?_
  rintro e w3 ⟨v3, rfl, ho3, hb3⟩
  have B5 : Hid (Below w.heap.size w w3) := Lib.hid (B3.out.trans (hb3.mono B3.out.size))
  have A6 := Lib.hid (A4.out.below hb3)
  clear B3 A4
  have Z3 : Hid (w2.heap.size ≤ w3.heap.size) := Lib.hid hb3.size
  have V7 := Lib.hid ho3
  clear ho3 hb3
  obtain ⟨fa3, fc3, e3⟩ := V7.out.read.form
  subst e3
  obtain ⟨ac0, ac1, ac2, alt⟩ := A6.out
  go_wp2_with fail
  clear ac0 ac1 ac2 alt
  refine (toDeal_any d _).mono ?_
  rintro e w4 ⟨rfl, hb4⟩
  have B8 : Hid (Below w.heap.size w w4) := Lib.hid (B5.out.trans (hb4.mono B5.out.size))
  have A9 := Lib.hid (A6.out.below hb4)
  have V10 := Lib.hid (V7.out.keeps (Keeps.of_all hb4))
  clear B5 A6 V7
  have Z4 : Hid (w3.heap.size ≤ w4.heap.size) := Lib.hid hb4.size
  clear hb4
  try unfold Dl.v
  go_wp2_with fail
  refine (KI.out _).mono ?_
  rintro e w5 ⟨v5, rfl, ho5, hb5⟩
  have B11 : Hid (Below w.heap.size w w5) := Lib.hid (B8.out.trans (hb5.mono B8.out.size))
  have A12 := Lib.hid (A9.out.below hb5)
  have V13 := Lib.hid (V10.out.keeps (Keeps.of_all hb5))
  clear B8 A9 V10
  have Z5 : Hid (w4.heap.size ≤ w5.heap.size) := Lib.hid hb5.size
  have S14 := Lib.hid ho5
  clear ho5 hb5
  obtain ⟨fa5, fc5, e5⟩ := S14.out.read.form
  subst e5
  go_wp2_with fail
  refine (eqIntS_same _ _ _ _ _ _ _ _ S14.out.read V13.out.read).mono ?_
  rintro e w6 ⟨rfl, nq6, hd6⟩
  have hb6 : Below w5.heap.size w5 w6 := by rw [hd6]; exact below_drewN' (Below.refl _ _) nq6
  clear hd6
  have B15 : Hid (Below w.heap.size w w6) := Lib.hid (B11.out.trans (hb6.mono B11.out.size))
  have A16 := Lib.hid (A12.out.below hb6)
  have V17 := Lib.hid (V13.out.keeps (Keeps.of_all hb6))
  have S18 := Lib.hid (S14.out.keeps (Keeps.of_all hb6))
  clear B11 A12 V13 S14
  have Z6 : Hid (w5.heap.size ≤ w6.heap.size) := Lib.hid hb6.size
  clear hb6
  go_wp2_with fail
  refine (markIntS_row _ _ _ _ 1 _ (by have := HRL.out; omega) (by omega) S18.out).mono ?_
  rintro e w7 ⟨rfl, hm7, hg7⟩
  have ht7 : Touch w4.heap.size w5.heap.size w6 w7 := Touch.of_grown hg7 (fun k hk => ⟨(S18.out.1.lt k hk).1, S18.out.2 k hk⟩)
  clear hg7
  have H19 := Lib.hid hm7
  clear hm7
  clear S18
  have B20 : Hid (Below w.heap.size w w7) := Lib.hid (B15.out.trans (ht7.below (by have z1 := Z1.out; have z2 := Z2.out; have z3 := Z3.out; have z4 := Z4.out; have z5 := Z5.out; have z6 := Z6.out; omega) B15.out.size))
  have A21 := Lib.hid (A16.out.of_block (ht7.block _ A16.out.lt (by have z1 := Z1.out; have z2 := Z2.out; have z3 := Z3.out; have z4 := Z4.out; have z5 := Z5.out; have z6 := Z6.out; omega)))
  have V22 := Lib.hid (V17.out.keeps (ht7.keeps (by have z1 := Z1.out; have z2 := Z2.out; have z3 := Z3.out; have z4 := Z4.out; have z5 := Z5.out; have z6 := Z6.out; omega)))
  clear B15 A16 V17
  have Z7 : Hid (w6.heap.size ≤ w7.heap.size) := Lib.hid ht7.size
  clear ht7
  go_wp2_with fail
  refine (heldIntS_any _ _ _ rl.length 1 _ (by have := HRL.out; omega) (by omega) H19.out.read).mono ?_
  rintro e wq ⟨rfl, rfl⟩
  obtain ⟨ac0, ac1, ac2, alt⟩ := A21.out
  go_wp2_with fail
  clear ac0 ac1 ac2 alt
  refine (toDeal_any d _).mono ?_
  rintro e w8 ⟨rfl, hb8⟩
  have B23 : Hid (Below w.heap.size w w8) := Lib.hid (B20.out.trans (hb8.mono B20.out.size))
  have A24 := Lib.hid (A21.out.below hb8)
  have V25 := Lib.hid (V22.out.keeps (Keeps.of_all hb8))
  have H26 := Lib.hid (H19.out.keeps (Keeps.of_all hb8))
  clear B20 A21 V22 H19
  have Z8 : Hid (w7.heap.size ≤ w8.heap.size) := Lib.hid hb8.size
  clear hb8
  try unfold Dl.v
  go_wp2_with fail
  refine (KI.out _).mono ?_
  rintro e w9 ⟨v9, rfl, ho9, hb9⟩
  have B27 : Hid (Below w.heap.size w w9) := Lib.hid (B23.out.trans (hb9.mono B23.out.size))
  have A28 := Lib.hid (A24.out.below hb9)
  have V29 := Lib.hid (V25.out.keeps (Keeps.of_all hb9))
  have H30 := Lib.hid (H26.out.keeps (Keeps.of_all hb9))
  clear B23 A24 V25 H26
  have Z9 : Hid (w8.heap.size ≤ w9.heap.size) := Lib.hid hb9.size
  have O31 := Lib.hid ho9
  clear ho9 hb9
  obtain ⟨fa9, fc9, e9⟩ := O31.out.read.form
  subst e9
  go_wp2_with fail
  refine (eqIntS_same _ _ _ _ _ _ _ _ O31.out.read V29.out.read).mono ?_
  rintro e w10 ⟨rfl, nq10, hd10⟩
  have hb10 : Below w9.heap.size w9 w10 := by rw [hd10]; exact below_drewN' (Below.refl _ _) nq10
  clear hd10
  have B32 : Hid (Below w.heap.size w w10) := Lib.hid (B27.out.trans (hb10.mono B27.out.size))
  have A33 := Lib.hid (A28.out.below hb10)
  have V34 := Lib.hid (V29.out.keeps (Keeps.of_all hb10))
  have H35 := Lib.hid (H30.out.keeps (Keeps.of_all hb10))
  have O36 := Lib.hid (O31.out.keeps (Keeps.of_all hb10))
  clear B27 A28 V29 H30 O31
  have Z10 : Hid (w9.heap.size ≤ w10.heap.size) := Lib.hid hb10.size
  clear hb10
  go_wp2_with fail
  refine (heldIntS_any _ _ _ rl.length 1 _ (by have := HRL.out; omega) (by omega) H35.out.read).mono ?_
  rintro e wq ⟨rfl, rfl⟩
  go_wp2
  go_ret
  exact ⟨rfl, B32.out⟩
end Go.Proofs.Yteahjnobnbafiaa
