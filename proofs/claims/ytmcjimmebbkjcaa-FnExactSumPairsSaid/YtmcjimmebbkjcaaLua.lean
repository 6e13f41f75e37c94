/-
  The walk of the law FnExactSumPairs: it returns true and writes nothing that was there. No condition.
-/
import Derived.Test.YtmcjimmebbkjcaaPrl
import Derived.Test.YtmcjimmebbkjcaaPsl
import Derived.Test.YtmcjimmebbkjcaaPsk
import Derived.Test.YtmcjimmebbkjcaaPin
namespace Go.Proofs.Ytmcjimmebbkjcaa
open Go.RowKit Go.WideShapes
open Go Go.Deep

set_option maxRecDepth 100000 in
set_option maxHeartbeats 16000000 in
theorem walk_FnExactSumPairs (x : Int) (w : World) (_h0 : (Lit.int .i64 x).wf = true) :
    Calls Try.prog 3 #[.int .i64 x] w fun e w' => e = .returned (.bool true) ∧ Below w.heap.size w w' := by
  have KS := Lib.hid (fun W => (specSumPairs_any x W).mono fun e w' h => h.po)
  have KI := Lib.hid (fun W => (implSumPairs_any x W).mono fun e w' h => h.po)
  have HRL : Hid ((sumR x).length ≤ 1048576) := Lib.hid (Nat.le_trans (sumR_len x) (by decide))
  generalize sumR x = rl at *
  go_enter Try.func3, Try.ntmps3
  have B0 : Hid (Below w.heap.size w w) := Lib.hid (Below.refl _ _)
  go_wp2_with fail
  refine (KS.out _).mono ?_
  rintro e w1 ⟨v1, rfl, ho1, hb1⟩
  have B1 : Hid (Below w.heap.size w w1) := Lib.hid (B0.out.trans (hb1.mono B0.out.size))
  clear B0
  have Z1 : Hid (w.heap.size ≤ w1.heap.size) := Lib.hid hb1.size
  have V2 := Lib.hid ho1
  clear ho1 hb1
  obtain ⟨fa1, fc1, e1⟩ := V2.out.read.form
  subst e1
  go_wp2_with fail
  refine (KI.out _).mono ?_
  rintro e w2 ⟨v2, rfl, ho2, hb2⟩
  have B3 : Hid (Below w.heap.size w w2) := Lib.hid (B1.out.trans (hb2.mono B1.out.size))
  have V4 := Lib.hid (V2.out.keeps (Keeps.of_all hb2))
  clear B1 V2
  have Z2 : Hid (w1.heap.size ≤ w2.heap.size) := Lib.hid hb2.size
  have S5 := Lib.hid ho2
  clear ho2 hb2
  obtain ⟨fa2, fc2, e2⟩ := S5.out.read.form
  subst e2
  go_wp2_with fail
  refine (eqPairS_same _ _ rl _ S5.out.read V4.out.read).mono ?_
  rintro e w3 ⟨rfl, hb3⟩
  have B6 : Hid (Below w.heap.size w w3) := Lib.hid (B3.out.trans (hb3.mono B3.out.size))
  have V7 := Lib.hid (V4.out.keeps (Keeps.of_all hb3))
  have S8 := Lib.hid (S5.out.keeps (Keeps.of_all hb3))
  clear B3 V4 S5
  have Z3 : Hid (w2.heap.size ≤ w3.heap.size) := Lib.hid hb3.size
  clear hb3
  go_wp2_with fail
  refine (markPairS_rw _ _ _ rl 1 _ (by have := HRL.out; omega) (by omega) (by omega) S8.out.1).mono ?_
  rintro e w4 ⟨rfl, hm4, hg4⟩
  have ht4 : Touch w1.heap.size w2.heap.size w3 w4 := Touch.of_grown hg4 (fun k hk => ⟨(S8.out.1.lt k hk).1, S8.out.2 k hk⟩)
  clear hg4
  have H9 : Hid (Po w1.heap.size w2.heap.size w4 _ (marksPr 1 rl.length)) := Lib.hid ⟨by rw [marksPr_len]; exact hm4, S8.out.2⟩
  clear hm4
  clear S8
  have B10 : Hid (Below w.heap.size w w4) := Lib.hid (B6.out.trans (ht4.below (by have z1 := Z1.out; have z2 := Z2.out; have z3 := Z3.out; omega) B6.out.size))
  have V11 := Lib.hid (V7.out.keeps (ht4.keeps (by have z1 := Z1.out; have z2 := Z2.out; have z3 := Z3.out; omega)))
  clear B6 V7
  have Z4 : Hid (w3.heap.size ≤ w4.heap.size) := Lib.hid ht4.size
  clear ht4
  go_wp2_with fail
  refine (heldPairS_any _ rl.length 1 _ (by have := HRL.out; omega) (by omega) (by omega) H9.out.read).mono ?_
  rintro e wq ⟨rfl, rfl⟩
  go_wp2_with fail
  refine (KI.out _).mono ?_
  rintro e w5 ⟨v5, rfl, ho5, hb5⟩
  have B12 : Hid (Below w.heap.size w w5) := Lib.hid (B10.out.trans (hb5.mono B10.out.size))
  have V13 := Lib.hid (V11.out.keeps (Keeps.of_all hb5))
  have H14 := Lib.hid (H9.out.keeps (Keeps.of_all hb5))
  clear B10 V11 H9
  have Z5 : Hid (w4.heap.size ≤ w5.heap.size) := Lib.hid hb5.size
  have O15 := Lib.hid ho5
  clear ho5 hb5
  obtain ⟨fa5, fc5, e5⟩ := O15.out.read.form
  subst e5
  go_wp2_with fail
  refine (eqPairS_same _ _ rl _ O15.out.read V13.out.read).mono ?_
  rintro e w6 ⟨rfl, hb6⟩
  have B16 : Hid (Below w.heap.size w w6) := Lib.hid (B12.out.trans (hb6.mono B12.out.size))
  have V17 := Lib.hid (V13.out.keeps (Keeps.of_all hb6))
  have H18 := Lib.hid (H14.out.keeps (Keeps.of_all hb6))
  have O19 := Lib.hid (O15.out.keeps (Keeps.of_all hb6))
  clear B12 V13 H14 O15
  have Z6 : Hid (w5.heap.size ≤ w6.heap.size) := Lib.hid hb6.size
  clear hb6
  go_wp2_with fail
  refine (heldPairS_any _ rl.length 1 _ (by have := HRL.out; omega) (by omega) (by omega) H18.out.read).mono ?_
  rintro e wq ⟨rfl, rfl⟩
  go_wp2
  go_ret
  exact ⟨rfl, B16.out⟩
end Go.Proofs.Ytmcjimmebbkjcaa
