/-
  The walk of the law FnExactNowSum: it returns true and writes nothing that was there. No condition.
-/
import Derived.Test.YtmcjimmebbkjcaaPrl
import Derived.Test.YtmcjimmebbkjcaaPsl
import Derived.Test.YtmcjimmebbkjcaaPsk
import Derived.Test.YtmcjimmebbkjcaaPin
namespace Go.Proofs.Ytmcjimmebbkjcaa
open Go.RowKit Go.WideShapes
open Go Go.Deep

set_option maxRecDepth 100000 in
set_option maxHeartbeats 16000000 in
theorem walk_FnExactNowSum (v00 : Value) (xs : List Pr) (w : World) (h0 : PsW w v00 xs) :
    Calls Try.prog 7 #[v00] w fun e w' => e = .returned (.bool true) ∧ Below w.heap.size w w' := by
  obtain ⟨h0, hw0⟩ := h0
  have HW0 := Lib.hid hw0
  clear hw0
  obtain ⟨va0, vc0, rfl⟩ := h0.form
  have KN0 := Lib.hid (fun hn W (h : Below w.heap.size w W) => toPairS_po _ xs W (h0.below h (Nat.le_refl _)) hn)
  have KY0 := Lib.hid (fun W (h : Below w.heap.size w W) => szPairS_any _ xs 1048576 W (h0.below h (Nat.le_refl _)) (by decide) (by decide))
  clear h0
  by_cases hs0 : 1048576 < xs.length
  · skip
    rw [if_pos (by omega)] at KY0
    clear KN0
    go_enter Try.func7, Try.ntmps7
    have B0 : Hid (Below w.heap.size w w) := Lib.hid (Below.refl _ _)
    go_wp2_with fail
    refine (KY0.out _ B0.out).mono ?_
    rintro e wq ⟨rfl, rfl⟩
    go_wp2
    go_ret
    exact ⟨rfl, B0.out⟩
  have hn0 : xs.length ≤ 1048576 := by omega
  have KN0 := Lib.hid (KN0.out hn0)
  have HN0 := Lib.hid hn0
  rw [if_neg (by omega)] at KY0
  have hlf0 : (0 : Int) ≤ 1048576 - (xs.length : Int) := by omega
  generalize (1048576 : Int) - (xs.length : Int) = left at *
  clear hs0 hn0
  have KS := Lib.hid (fun W {v} (h : Ps W v xs) => (specNowSum_any v xs W h HN0.out).mono fun e w' h => h.po)
  have KI := Lib.hid (fun W {v} (h : Ps W v xs) => (implNowSum_any v xs W h HN0.out).mono fun e w' h => h.po)
  have HRL : Hid ((nowR sumW xs).length ≤ 1048576) := Lib.hid (Nat.le_trans (nowR_len sumW xs) HN0.out)
  generalize nowR sumW xs = rl at *
  go_enter Try.func7, Try.ntmps7
  have B0 : Hid (Below w.heap.size w w) := Lib.hid (Below.refl _ _)
  go_wp2_with fail
  refine (KY0.out _ B0.out).mono ?_
  rintro e wq ⟨rfl, rfl⟩
  go_wp2_with fail
  refine (KN0.out _ B0.out).mono ?_
  rintro e w1 ⟨v1, rfl, ho1, hb1⟩
  have B1 : Hid (Below w.heap.size w w1) := Lib.hid (B0.out.trans (hb1.mono B0.out.size))
  clear B0
  have Z1 : Hid (w.heap.size ≤ w1.heap.size) := Lib.hid hb1.size
  have P2 := Lib.hid ho1
  clear ho1 hb1
  obtain ⟨fa1, fc1, e1⟩ := P2.out.read.form
  subst e1
  go_wp2_with fail
  refine (KS.out _ P2.out.read).mono ?_
  rintro e w2 ⟨v2, rfl, ho2, hb2⟩
  have B3 : Hid (Below w.heap.size w w2) := Lib.hid (B1.out.trans (hb2.mono B1.out.size))
  have P4 := Lib.hid (P2.out.keeps (Keeps.of_all hb2))
  clear B1 P2
  have Z2 : Hid (w1.heap.size ≤ w2.heap.size) := Lib.hid hb2.size
  have V5 := Lib.hid ho2
  clear ho2 hb2
  obtain ⟨fa2, fc2, e2⟩ := V5.out.read.form
  subst e2
  clear P4
  go_wp2_with fail
  refine (KN0.out _ B3.out).mono ?_
  rintro e w3 ⟨v3, rfl, ho3, hb3⟩
  have B6 : Hid (Below w.heap.size w w3) := Lib.hid (B3.out.trans (hb3.mono B3.out.size))
  have V7 := Lib.hid (V5.out.keeps (Keeps.of_all hb3))
  clear B3 V5
  have Z3 : Hid (w2.heap.size ≤ w3.heap.size) := Lib.hid hb3.size
  have X8 := Lib.hid ho3
  clear ho3 hb3
  obtain ⟨fa3, fc3, e3⟩ := X8.out.read.form
  subst e3
  go_wp2_with fail
  refine (KI.out _ X8.out.read).mono ?_
  rintro e w4 ⟨v4, rfl, ho4, hb4⟩
  have B9 : Hid (Below w.heap.size w w4) := Lib.hid (B6.out.trans (hb4.mono B6.out.size))
  have V10 := Lib.hid (V7.out.keeps (Keeps.of_all hb4))
  have X11 := Lib.hid (X8.out.keeps (Keeps.of_all hb4))
  clear B6 V7 X8
  have Z4 : Hid (w3.heap.size ≤ w4.heap.size) := Lib.hid hb4.size
  have S12 := Lib.hid ho4
  clear ho4 hb4
  obtain ⟨fa4, fc4, e4⟩ := S12.out.read.form
  subst e4
  go_wp2_with fail
  refine (eqPairS_same _ _ rl _ S12.out.read V10.out.read).mono ?_
  rintro e w5 ⟨rfl, hb5⟩
  have B13 : Hid (Below w.heap.size w w5) := Lib.hid (B9.out.trans (hb5.mono B9.out.size))
  have V14 := Lib.hid (V10.out.keeps (Keeps.of_all hb5))
  have X15 := Lib.hid (X11.out.keeps (Keeps.of_all hb5))
  have S16 := Lib.hid (S12.out.keeps (Keeps.of_all hb5))
  clear B9 V10 X11 S12
  have Z5 : Hid (w4.heap.size ≤ w5.heap.size) := Lib.hid hb5.size
  clear hb5
  go_wp2_with fail
  refine (KN0.out _ B13.out).mono ?_
  rintro e w6 ⟨v6, rfl, ho6, hb6⟩
  have B17 : Hid (Below w.heap.size w w6) := Lib.hid (B13.out.trans (hb6.mono B13.out.size))
  have V18 := Lib.hid (V14.out.keeps (Keeps.of_all hb6))
  have X19 := Lib.hid (X15.out.keeps (Keeps.of_all hb6))
  have S20 := Lib.hid (S16.out.keeps (Keeps.of_all hb6))
  clear B13 V14 X15 S16
  have Z6 : Hid (w5.heap.size ≤ w6.heap.size) := Lib.hid hb6.size
  have T21 := Lib.hid ho6
  clear ho6 hb6
  obtain ⟨fa6, fc6, e6⟩ := T21.out.read.form
  subst e6
  go_wp2_with fail
  refine (eqPairS_same _ _ xs _ X19.out.read T21.out.read).mono ?_
  rintro e w7 ⟨rfl, hb7⟩
  have B22 : Hid (Below w.heap.size w w7) := Lib.hid (B17.out.trans (hb7.mono B17.out.size))
  have V23 := Lib.hid (V18.out.keeps (Keeps.of_all hb7))
  have X24 := Lib.hid (X19.out.keeps (Keeps.of_all hb7))
  have S25 := Lib.hid (S20.out.keeps (Keeps.of_all hb7))
  have T26 := Lib.hid (T21.out.keeps (Keeps.of_all hb7))
  clear B17 V18 X19 S20 T21
  have Z7 : Hid (w6.heap.size ≤ w7.heap.size) := Lib.hid hb7.size
  clear hb7
  clear T26
  go_wp2_with fail
  refine (markPairS_rw _ _ _ xs (1) _ (by have := HN0.out; omega) (by omega) (by omega) X24.out.1).mono ?_
  rintro e w8 ⟨rfl, hm8, hg8⟩
  have ht8 : Touch w2.heap.size w3.heap.size w7 w8 := Touch.of_grown hg8 (fun k hk => ⟨(X24.out.1.lt k hk).1, X24.out.2 k hk⟩)
  clear hg8
  clear hm8
  clear X24
  have B27 : Hid (Below w.heap.size w w8) := Lib.hid (B22.out.trans (ht8.below (by have z1 := Z1.out; have z2 := Z2.out; have z3 := Z3.out; have z4 := Z4.out; have z5 := Z5.out; have z6 := Z6.out; have z7 := Z7.out; omega) B22.out.size))
  have V28 := Lib.hid (V23.out.keeps (ht8.keeps (by have z1 := Z1.out; have z2 := Z2.out; have z3 := Z3.out; have z4 := Z4.out; have z5 := Z5.out; have z6 := Z6.out; have z7 := Z7.out; omega)))
  have S29 := Lib.hid (S25.out.keeps (ht8.keeps (by have z1 := Z1.out; have z2 := Z2.out; have z3 := Z3.out; have z4 := Z4.out; have z5 := Z5.out; have z6 := Z6.out; have z7 := Z7.out; omega)))
  clear B22 V23 S25
  have Z8 : Hid (w7.heap.size ≤ w8.heap.size) := Lib.hid ht8.size
  clear ht8
  go_wp2_with fail
  refine (eqPairS_same _ _ rl _ S29.out.read V28.out.read).mono ?_
  rintro e w9 ⟨rfl, hb9⟩
  have B30 : Hid (Below w.heap.size w w9) := Lib.hid (B27.out.trans (hb9.mono B27.out.size))
  have V31 := Lib.hid (V28.out.keeps (Keeps.of_all hb9))
  have S32 := Lib.hid (S29.out.keeps (Keeps.of_all hb9))
  clear B27 V28 S29
  have Z9 : Hid (w8.heap.size ≤ w9.heap.size) := Lib.hid hb9.size
  clear hb9
  go_wp2_with fail
  refine (markPairS_rw _ _ _ rl 1 _ (by have := HRL.out; omega) (by omega) (by omega) S32.out.1).mono ?_
  rintro e w10 ⟨rfl, hm10, hg10⟩
  have ht10 : Touch w3.heap.size w4.heap.size w9 w10 := Touch.of_grown hg10 (fun k hk => ⟨(S32.out.1.lt k hk).1, S32.out.2 k hk⟩)
  clear hg10
  have H33 : Hid (Po w3.heap.size w4.heap.size w10 _ (marksPr 1 rl.length)) := Lib.hid ⟨by rw [marksPr_len]; exact hm10, S32.out.2⟩
  clear hm10
  clear S32
  have B34 : Hid (Below w.heap.size w w10) := Lib.hid (B30.out.trans (ht10.below (by have z1 := Z1.out; have z2 := Z2.out; have z3 := Z3.out; have z4 := Z4.out; have z5 := Z5.out; have z6 := Z6.out; have z7 := Z7.out; have z8 := Z8.out; have z9 := Z9.out; omega) B30.out.size))
  have V35 := Lib.hid (V31.out.keeps (ht10.keeps (by have z1 := Z1.out; have z2 := Z2.out; have z3 := Z3.out; have z4 := Z4.out; have z5 := Z5.out; have z6 := Z6.out; have z7 := Z7.out; have z8 := Z8.out; have z9 := Z9.out; omega)))
  clear B30 V31
  have Z10 : Hid (w9.heap.size ≤ w10.heap.size) := Lib.hid ht10.size
  clear ht10
  go_wp2_with fail
  refine (heldPairS_any _ rl.length 1 _ (by have := HRL.out; omega) (by omega) (by omega) H33.out.read).mono ?_
  rintro e wq ⟨rfl, rfl⟩
  go_wp2_with fail
  refine (KN0.out _ B34.out).mono ?_
  rintro e w11 ⟨v11, rfl, ho11, hb11⟩
  have B36 : Hid (Below w.heap.size w w11) := Lib.hid (B34.out.trans (hb11.mono B34.out.size))
  have V37 := Lib.hid (V35.out.keeps (Keeps.of_all hb11))
  have H38 := Lib.hid (H33.out.keeps (Keeps.of_all hb11))
  clear B34 V35 H33
  have Z11 : Hid (w10.heap.size ≤ w11.heap.size) := Lib.hid hb11.size
  have P39 := Lib.hid ho11
  clear ho11 hb11
  obtain ⟨fa11, fc11, e11⟩ := P39.out.read.form
  subst e11
  go_wp2_with fail
  refine (KI.out _ P39.out.read).mono ?_
  rintro e w12 ⟨v12, rfl, ho12, hb12⟩
  have B40 : Hid (Below w.heap.size w w12) := Lib.hid (B36.out.trans (hb12.mono B36.out.size))
  have V41 := Lib.hid (V37.out.keeps (Keeps.of_all hb12))
  have H42 := Lib.hid (H38.out.keeps (Keeps.of_all hb12))
  have P43 := Lib.hid (P39.out.keeps (Keeps.of_all hb12))
  clear B36 V37 H38 P39
  have Z12 : Hid (w11.heap.size ≤ w12.heap.size) := Lib.hid hb12.size
  have O44 := Lib.hid ho12
  clear ho12 hb12
  obtain ⟨fa12, fc12, e12⟩ := O44.out.read.form
  subst e12
  clear P43
  go_wp2_with fail
  refine (eqPairS_same _ _ rl _ O44.out.read V41.out.read).mono ?_
  rintro e w13 ⟨rfl, hb13⟩
  have B45 : Hid (Below w.heap.size w w13) := Lib.hid (B40.out.trans (hb13.mono B40.out.size))
  have V46 := Lib.hid (V41.out.keeps (Keeps.of_all hb13))
  have H47 := Lib.hid (H42.out.keeps (Keeps.of_all hb13))
  have O48 := Lib.hid (O44.out.keeps (Keeps.of_all hb13))
  clear B40 V41 H42 O44
  have Z13 : Hid (w12.heap.size ≤ w13.heap.size) := Lib.hid hb13.size
  clear hb13
  go_wp2_with fail
  refine (heldPairS_any _ rl.length 1 _ (by have := HRL.out; omega) (by omega) (by omega) H47.out.read).mono ?_
  rintro e wq ⟨rfl, rfl⟩
  go_wp2
  go_ret
  exact ⟨rfl, B45.out⟩
end Go.Proofs.Ytmcjimmebbkjcaa
