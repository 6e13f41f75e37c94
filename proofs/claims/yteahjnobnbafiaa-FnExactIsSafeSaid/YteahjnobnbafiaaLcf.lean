/-
  The walk of the law FnExactIsSafe: it returns true and writes nothing that was there. No condition.
-/
import Derived.Test.YteahjnobnbafiaaDcl
import Derived.Test.YteahjnobnbafiaaCdr
import Derived.Test.YteahjnobnbafiaaCin
namespace Go.Proofs.Yteahjnobnbafiaa
open Go.RowKit Go.WideShapes
open Go Go.Deep

set_option maxRecDepth 100000 in
set_option maxHeartbeats 16000000 in
theorem walk_FnExactIsSafe (v00 : Value) (d : Dl) (v10 : Value) (l : List Int) (w : World) (h0 : Dv v00 d) (h1 : Iv 0 w.heap.size w v10 l) :
    Calls Try.prog 8 #[v00, v10] w fun e w' => e = .returned (.bool true) ∧ Below w.heap.size w w' := by
  obtain ⟨rfl, hp0⟩ := h0
  have HP0 := Lib.hid hp0
  clear hp0
  obtain ⟨va1, vc1, rfl⟩ := h1.form
  have KN1 := Lib.hid (fun hn W (h : Below w.heap.size w W) => toIntS_any 0 w.heap.size _ l W (h1.keeps (Keeps.of_all h)) hn)
  clear h1
  unfold Dl.v
  by_cases hs1 : 1048576 < l.length
  · skip
    have d1 : decide ((1048576 : Int) < (l.length : Int)) = true := decide_eq_true (by omega)
    clear KN1
    go_enter Try.func8, Try.ntmps8
    go_wp2
    go_ret
    exact ⟨rfl, by go_grown⟩
  have hn1 : l.length ≤ 1048576 := by omega
  have KN1 := Lib.hid (KN1.out hn1)
  have HN1 := Lib.hid hn1
  have dl1 : decide ((1048576 : Int) < (l.length : Int)) = false := decide_eq_false (by omega)
  clear hs1 hn1
  have KS := Lib.hid (fun W {lo hi v} (h : Iv lo hi W v l) => specSafe_any lo hi v l d W h)
  have KI := Lib.hid (fun W {lo hi v} (h : Iv lo hi W v l) => implSafe_any lo hi v l d W h HN1.out)
  unfold Dl.v at KS KI
  generalize safeR d l = R at *
  go_enter Try.func8, Try.ntmps8
  have B0 : Hid (Below w.heap.size w w) := Lib.hid (Below.refl _ _)
  go_wp2_with fail
  have A1 := Lib.hid (Dcell.new w d 23)
  have hb1 : Below w.heap.size w (w.alloc (.cells #[.int .i64 d.a, .int .i64 d.b, .int .i64 d.c] 23)) := by go_grown
  have hz1 : (w.alloc (.cells #[.int .i64 d.a, .int .i64 d.b, .int .i64 d.c] 23)).heap.size = w.heap.size + 1 := by simp
  generalize w.alloc (.cells #[.int .i64 d.a, .int .i64 d.b, .int .i64 d.c] 23) = w1 at *
  have B2 : Hid (Below w.heap.size w w1) := Lib.hid (B0.out.trans (hb1.mono B0.out.size))
  clear B0
  have Z1 := Lib.hid hz1
  clear hb1 hz1
  obtain ⟨ac0, ac1, ac2, alt⟩ := A1.out
  clear ac0 ac1 ac2 alt
  refine (toDeal_any d _).mono ?_
  rintro e w2 ⟨rfl, hb2⟩
  have B3 : Hid (Below w.heap.size w w2) := Lib.hid (B2.out.trans (hb2.mono B2.out.size))
  have A4 := Lib.hid (A1.out.below hb2)
  clear B2 A1
  have Z2 : Hid (w1.heap.size ≤ w2.heap.size) := Lib.hid hb2.size
  clear hb2
  try unfold Dl.v
  go_wp2_with fail
  refine (KN1.out _ B3.out).mono ?_
  rintro e w3 ⟨v3, rfl, ho3, hb3⟩
  have B5 : Hid (Below w.heap.size w w3) := Lib.hid (B3.out.trans (hb3.mono B3.out.size))
  have A6 := Lib.hid (A4.out.below hb3)
  clear B3 A4
  have Z3 : Hid (w2.heap.size ≤ w3.heap.size) := Lib.hid hb3.size
  have P7 := Lib.hid ho3
  clear ho3 hb3
  obtain ⟨fa3, fc3, e3⟩ := P7.out.read.form
  subst e3
  go_wp2_with fail
  refine (KS.out _ P7.out.read).mono ?_
  rintro e w4 ⟨rfl, hb4⟩
  have B8 : Hid (Below w.heap.size w w4) := Lib.hid (B5.out.trans (hb4.mono B5.out.size))
  have A9 := Lib.hid (A6.out.below hb4)
  have P10 := Lib.hid (P7.out.keeps (Keeps.of_all hb4))
  clear B5 A6 P7
  have Z4 : Hid (w3.heap.size ≤ w4.heap.size) := Lib.hid hb4.size
  clear hb4
  clear P10
  go_wp2_with fail
  refine (KN1.out _ B8.out).mono ?_
  rintro e w5 ⟨v5, rfl, ho5, hb5⟩
  have B11 : Hid (Below w.heap.size w w5) := Lib.hid (B8.out.trans (hb5.mono B8.out.size))
  have A12 := Lib.hid (A9.out.below hb5)
  clear B8 A9
  have Z5 : Hid (w4.heap.size ≤ w5.heap.size) := Lib.hid hb5.size
  have X13 := Lib.hid ho5
  clear ho5 hb5
  obtain ⟨fa5, fc5, e5⟩ := X13.out.read.form
  subst e5
  obtain ⟨ac0, ac1, ac2, alt⟩ := A12.out
  go_wp2_with fail
  clear ac0 ac1 ac2 alt
  refine (toDeal_any d _).mono ?_
  rintro e w6 ⟨rfl, hb6⟩
  have B14 : Hid (Below w.heap.size w w6) := Lib.hid (B11.out.trans (hb6.mono B11.out.size))
  have A15 := Lib.hid (A12.out.below hb6)
  have X16 := Lib.hid (X13.out.keeps (Keeps.of_all hb6))
  clear B11 A12 X13
  have Z6 : Hid (w5.heap.size ≤ w6.heap.size) := Lib.hid hb6.size
  clear hb6
  try unfold Dl.v
  go_wp2_with fail
  refine (KI.out _ X16.out.read).mono ?_
  rintro e w7 ⟨rfl, hb7⟩
  have B17 : Hid (Below w.heap.size w w7) := Lib.hid (B14.out.trans (hb7.mono B14.out.size))
  have A18 := Lib.hid (A15.out.below hb7)
  have X19 := Lib.hid (X16.out.keeps (Keeps.of_all hb7))
  clear B14 A15 X16
  have Z7 : Hid (w6.heap.size ≤ w7.heap.size) := Lib.hid hb7.size
  clear hb7
  go_wp2_with fail
  refine (KN1.out _ B17.out).mono ?_
  rintro e w8 ⟨v8, rfl, ho8, hb8⟩
  have B20 : Hid (Below w.heap.size w w8) := Lib.hid (B17.out.trans (hb8.mono B17.out.size))
  have A21 := Lib.hid (A18.out.below hb8)
  have X22 := Lib.hid (X19.out.keeps (Keeps.of_all hb8))
  clear B17 A18 X19
  have Z8 : Hid (w7.heap.size ≤ w8.heap.size) := Lib.hid hb8.size
  have T23 := Lib.hid ho8
  clear ho8 hb8
  obtain ⟨fa8, fc8, e8⟩ := T23.out.read.form
  subst e8
  go_wp2_with fail
  refine (eqIntS_same _ _ _ _ _ _ _ _ X22.out.read T23.out.read).mono ?_
  rintro e w9 ⟨rfl, nq9, hd9⟩
  have hb9 : Below w8.heap.size w8 w9 := by rw [hd9]; exact below_drewN' (Below.refl _ _) nq9
  clear hd9
  have B24 : Hid (Below w.heap.size w w9) := Lib.hid (B20.out.trans (hb9.mono B20.out.size))
  have A25 := Lib.hid (A21.out.below hb9)
  have X26 := Lib.hid (X22.out.keeps (Keeps.of_all hb9))
  have T27 := Lib.hid (T23.out.keeps (Keeps.of_all hb9))
  clear B20 A21 X22 T23
  have Z9 : Hid (w8.heap.size ≤ w9.heap.size) := Lib.hid hb9.size
  clear hb9
  clear T27
  go_wp2
  go_ret
  exact ⟨rfl, B24.out⟩
end Go.Proofs.Yteahjnobnbafiaa
