/-
  The walk of the law FnExactUniqueSum: it returns true and writes nothing that was there. No condition.
-/
import Derived.Test.YtmcjimmebbkjcaaPrl
import Derived.Test.YtmcjimmebbkjcaaPsl
import Derived.Test.YtmcjimmebbkjcaaPsk
import Derived.Test.YtmcjimmebbkjcaaPin
namespace Go.Proofs.Ytmcjimmebbkjcaa
open Go.RowKit Go.WideShapes
open Go Go.Deep

set_option maxRecDepth 100000 in
set_option maxHeartbeats 16000000 in
theorem walk_FnExactUniqueSum (v00 : Value) (xs : List Pr) (v10 : Value) (p : Pr) (w : World) (h0 : PsW w v00 xs) (h1 : Pv v10 p) :
    Calls Try.prog 5 #[v00, v10] w fun e w' => e = .returned (.bool true) ∧ Below w.heap.size w w' := by
  obtain ⟨rfl, hp1⟩ := h1
  have HP1 := Lib.hid hp1
  clear hp1
  obtain ⟨h0, hw0⟩ := h0
  have HW0 := Lib.hid hw0
  clear hw0
  obtain ⟨va0, vc0, rfl⟩ := h0.form
  have KN0 := Lib.hid (fun hn W (h : Below w.heap.size w W) => toPairS_po _ xs W (h0.below h (Nat.le_refl _)) hn)
  have KY0 := Lib.hid (fun W (h : Below w.heap.size w W) => szPairS_any _ xs 1048576 W (h0.below h (Nat.le_refl _)) (by decide) (by decide))
  clear h0
  unfold Pr.v
  by_cases hs0 : 1048576 < xs.length
  · skip
    rw [if_pos (by omega)] at KY0
    clear KN0
    go_enter Try.func5, Try.ntmps5
    have B0 : Hid (Below w.heap.size w w) := Lib.hid (Below.refl _ _)
    go_wp2_with fail
    have A1 := Lib.hid (Pcell.new w p 29)
    have hb1 : Below w.heap.size w (w.alloc (.cells #[.int .i64 p.a, .int .i64 p.b] 29)) := by go_grown
    have hz1 : (w.alloc (.cells #[.int .i64 p.a, .int .i64 p.b] 29)).heap.size = w.heap.size + 1 := by simp
    generalize w.alloc (.cells #[.int .i64 p.a, .int .i64 p.b] 29) = w1 at *
    have B2 : Hid (Below w.heap.size w w1) := Lib.hid (B0.out.trans (hb1.mono B0.out.size))
    clear B0
    have Z1 := Lib.hid hz1
    clear hb1 hz1
    refine (KY0.out _ B2.out).mono ?_
    rintro e wq ⟨rfl, rfl⟩
    go_wp2
    go_ret
    exact ⟨rfl, B2.out⟩
  have hn0 : xs.length ≤ 1048576 := by omega
  have KN0 := Lib.hid (KN0.out hn0)
  have HN0 := Lib.hid hn0
  rw [if_neg (by omega)] at KY0
  have hlf0 : (0 : Int) ≤ 1048576 - (xs.length : Int) := by omega
  generalize (1048576 : Int) - (xs.length : Int) = left at *
  clear hs0 hn0
  have KS := Lib.hid (fun W {v} (h : Ps W v xs) => specUniqueSum_any v xs p W h)
  have KI := Lib.hid (fun W {v} (h : Ps W v xs) => implUniqueSum_any v xs p W h HN0.out)
  unfold Pr.v at KS KI
  generalize uniqW sumW xs p = R at *
  go_enter Try.func5, Try.ntmps5
  have B0 : Hid (Below w.heap.size w w) := Lib.hid (Below.refl _ _)
  go_wp2_with fail
  have A1 := Lib.hid (Pcell.new w p 29)
  have hb1 : Below w.heap.size w (w.alloc (.cells #[.int .i64 p.a, .int .i64 p.b] 29)) := by go_grown
  have hz1 : (w.alloc (.cells #[.int .i64 p.a, .int .i64 p.b] 29)).heap.size = w.heap.size + 1 := by simp
  generalize w.alloc (.cells #[.int .i64 p.a, .int .i64 p.b] 29) = w1 at *
  have B2 : Hid (Below w.heap.size w w1) := Lib.hid (B0.out.trans (hb1.mono B0.out.size))
  clear B0
  have Z1 := Lib.hid hz1
  clear hb1 hz1
  refine (KY0.out _ B2.out).mono ?_
  rintro e wq ⟨rfl, rfl⟩
  go_wp2
  refine regionL (fun W => Below w1.heap.size w1 W) [] (by kernel_rfl) (Below.refl _ _).drew (fun hHeld => ?_)
  have t0 : Below w1.heap.size w1 w1.drew := (Below.refl _ _).drew
  refine takeA (i := 0) (v := .slice va0 xs.length vc0) 14 rfl rfl (by kernel_rfl) (by kernel_rfl) (by kernel_rfl) (by kernel_rfl) (fun _ _ _ h => h) (Or.inl ⟨by rfl, by intro W hSw; go_simp⟩) hHeld ?_
  simp only [Act.put, List.setIfInBounds_toArray, List.set_cons_zero, List.set_cons_succ]
  refine takeA (i := 2) (v := .agg #[.int .i64 p.a, .int .i64 p.b]) 16 rfl rfl (by kernel_rfl) (by kernel_rfl) (by kernel_rfl) (by kernel_rfl) (fun _ _ _ h => h) (Or.inl ⟨by rfl, by intro W hSw; obtain ⟨c0, c1, c2⟩ := A1.out.below hSw; go_simp⟩) hHeld ?_
  simp only [Act.put, List.setIfInBounds_toArray, List.set_cons_zero, List.set_cons_succ]
  refine onlyL (i := 1) (by kernel_rfl) rfl (by rfl) (fun K hK => ?_)
  go_simp
  refine (KN0.out _ (B2.out.trans (t0.mono B2.out.size))).mono ?_
  rintro e wr1 ⟨vr1, rfl, hor1, hbr1⟩
  have t1 : Below w1.heap.size w1 wr1 := t0.trans (hbr1.mono t0.size)
  have OR1 := Lib.hid hor1.read
  obtain ⟨far1, fcr1, er1⟩ := hor1.read.form
  subst er1
  clear hor1
  clear hbr1 hHeld
  refine hK.out _ _ (fun _ => t1) (fun hHeld => ?_)
  have hHeld := hHeld (by decide)
  clear hK K
  try simp only [Act.put, List.setIfInBounds_toArray, List.set_cons_zero, List.set_cons_succ]
  refine onlyL (i := 3) (by kernel_rfl) rfl (by rfl) (fun K hK => ?_)
  go_simp
  refine (toPair_any p _).mono ?_
  rintro e wr2 ⟨rfl, hbr2⟩
  have t2 : Below w1.heap.size w1 wr2 := t1.trans (hbr2.mono t1.size)
  have OR2 := Lib.hid (OR1.out.below hbr2 (Nat.le_refl _))
  unfold Pr.v
  clear hbr2 hHeld
  refine hK.out _ _ (fun _ => t2) (fun hHeld => ?_)
  have hHeld := hHeld (by decide)
  clear hK K
  try simp only [Act.put, List.setIfInBounds_toArray, List.set_cons_zero, List.set_cons_succ]
  refine onlyL (i := 4) (by kernel_rfl) rfl (by rfl) (fun K hK => ?_)
  go_simp
  refine (KS.out _ OR2.out).mono ?_
  rintro e wr3 ⟨rfl, hbr3⟩
  have t3 : Below w1.heap.size w1 wr3 := t2.trans (hbr3.mono t2.size)
  clear hbr3 hHeld
  refine hK.out _ _ (fun _ => t3) (fun hHeld => ?_)
  have hHeld := hHeld (by decide)
  clear hK K
  try simp only [Act.put, List.setIfInBounds_toArray, List.set_cons_zero, List.set_cons_succ]
  refine takeA (i := 5) (v := .bool R) 6 rfl rfl (by kernel_rfl) (by kernel_rfl) (by kernel_rfl) (by kernel_rfl) (fun _ _ _ h => h) (Or.inl ⟨by rfl, by intro W hSw; go_simp⟩) hHeld ?_
  simp only [Act.put, List.setIfInBounds_toArray, List.set_cons_zero, List.set_cons_succ]
  refine doneL (by kernel_rfl) ?_ _
  clear hHeld t0 t1 t2 OR1 OR2
  have hb2 := t3
  clear t3
  have B3 : Hid (Below w.heap.size w wr3) := Lib.hid (B2.out.trans (hb2.mono B2.out.size))
  have A4 := Lib.hid (A1.out.below hb2)
  clear B2 A1
  have Z2 : Hid (w1.heap.size ≤ wr3.heap.size) := Lib.hid hb2.size
  clear hb2
  go_wp2_with fail
  refine (KN0.out _ B3.out).mono ?_
  rintro e w3 ⟨v3, rfl, ho3, hb3⟩
  have B5 : Hid (Below w.heap.size w w3) := Lib.hid (B3.out.trans (hb3.mono B3.out.size))
  have A6 := Lib.hid (A4.out.below hb3)
  clear B3 A4
  have Z3 : Hid (wr3.heap.size ≤ w3.heap.size) := Lib.hid hb3.size
  have X7 := Lib.hid ho3
  clear ho3 hb3
  obtain ⟨fa3, fc3, e3⟩ := X7.out.read.form
  subst e3
  obtain ⟨ac0, ac1, alt⟩ := A6.out
  go_wp2_with fail
  clear ac0 ac1 alt
  refine (toPair_any p _).mono ?_
  rintro e w4 ⟨rfl, hb4⟩
  have B8 : Hid (Below w.heap.size w w4) := Lib.hid (B5.out.trans (hb4.mono B5.out.size))
  have A9 := Lib.hid (A6.out.below hb4)
  have X10 := Lib.hid (X7.out.keeps (Keeps.of_all hb4))
  clear B5 A6 X7
  have Z4 : Hid (w3.heap.size ≤ w4.heap.size) := Lib.hid hb4.size
  clear hb4
  try unfold Pr.v
  go_wp2_with fail
  refine (KI.out _ X10.out.read).mono ?_
  rintro e w5 ⟨rfl, hb5⟩
  have B11 : Hid (Below w.heap.size w w5) := Lib.hid (B8.out.trans (hb5.mono B8.out.size))
  have A12 := Lib.hid (A9.out.below hb5)
  have X13 := Lib.hid (X10.out.keeps (Keeps.of_all hb5))
  clear B8 A9 X10
  have Z5 : Hid (w4.heap.size ≤ w5.heap.size) := Lib.hid hb5.size
  clear hb5
  go_wp2_with fail
  refine (KN0.out _ B11.out).mono ?_
  rintro e w6 ⟨v6, rfl, ho6, hb6⟩
  have B14 : Hid (Below w.heap.size w w6) := Lib.hid (B11.out.trans (hb6.mono B11.out.size))
  have A15 := Lib.hid (A12.out.below hb6)
  have X16 := Lib.hid (X13.out.keeps (Keeps.of_all hb6))
  clear B11 A12 X13
  have Z6 : Hid (w5.heap.size ≤ w6.heap.size) := Lib.hid hb6.size
  have T17 := Lib.hid ho6
  clear ho6 hb6
  obtain ⟨fa6, fc6, e6⟩ := T17.out.read.form
  subst e6
  go_wp2_with fail
  refine (eqPairS_same _ _ xs _ X16.out.read T17.out.read).mono ?_
  rintro e w7 ⟨rfl, hb7⟩
  have B18 : Hid (Below w.heap.size w w7) := Lib.hid (B14.out.trans (hb7.mono B14.out.size))
  have A19 := Lib.hid (A15.out.below hb7)
  have X20 := Lib.hid (X16.out.keeps (Keeps.of_all hb7))
  have T21 := Lib.hid (T17.out.keeps (Keeps.of_all hb7))
  clear B14 A15 X16 T17
  have Z7 : Hid (w6.heap.size ≤ w7.heap.size) := Lib.hid hb7.size
  clear hb7
  clear T21
  go_wp2
  go_ret
  exact ⟨rfl, B18.out⟩
end Go.Proofs.Ytmcjimmebbkjcaa
