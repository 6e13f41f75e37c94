/-
  The walk of the law FnExactAskEvent: it returns true and writes nothing that was there. No condition.
-/
import Derived.Test.YtpodpadcaflehaaPba
namespace Go.Proofs.Ytpodpadcaflehaa
open Go.RowKit Go.WideShapes
open Go Go.Deep
set_option linter.unusedSimpArgs false


set_option maxRecDepth 100000 in
set_option maxHeartbeats 16000000 in
theorem walk_FnExactAskEvent (v00 : Value) (xs : List Nd) (ag : Int) (A : Int) (w : World) (h0 : Ns w v00 xs) (_h1 : (Lit.int .i64 ag).wf = true) (_h2 : (Lit.int .i64 A).wf = true) :
    Calls Try.prog 7 #[v00, .int .i64 ag, .int .i64 A] w fun e w' => e = .returned (.bool true) ∧ Below w.heap.size w w' := by
  have KZ0 := Lib.hid (fun left W (h : Below w.heap.size w W) hz0 hz1 => szNodeS_any v00 xs left W (h0.below h (Nat.le_refl _)) hz0 hz1)
  unfold budget at KZ0
  have KT0 := Lib.hid (fun hn W (h : Below w.heap.size w W) => toNodeS_no v00 xs W (h0.below h (Nat.le_refl _)) hn)
  clear h0
  have hl0 : (0 : Int) ≤ 1048576 := by decide
  have hl1 : (1048576 : Int) ≤ 1048576 := by decide
  have KZ0 := Lib.hid (fun W h => KZ0.out 1048576 W h hl0 hl1)
  by_cases hs0 : 1048576 - ((xs.length : Nat) : Int) < 0
  · simp only [if_pos hs0] at KZ0
    clear hs0 hl0 hl1
    clear KT0  
    go_enter Try.func7, Try.ntmps7
    have B1 := Lib.hid (Below.refl w.heap.size w)
    go_wp2_with fail
    refine (KZ0.out _ B1.out).mono ?_
    rintro e wq ⟨rfl, rfl⟩
    go_wp2
    go_ret
    exact ⟨rfl, B1.out⟩
  simp only [if_neg hs0] at KZ0
  have hn0 : (xs.length : Nat) ≤ 1048576 := by omega
  have KT0 := Lib.hid (KT0.out hn0)
  have HN0 := Lib.hid hn0
  obtain ⟨left0, heq0⟩ : ∃ l, l = 1048576 - ((xs.length : Nat) : Int) := ⟨_, rfl⟩
  rw [← heq0] at KZ0
  have hl0 : 0 ≤ left0 := by omega
  have hl1 : left0 ≤ 1048576 := by omega
  have HTOT : Hid ((xs.length : Nat) ≤ 1048576) := Lib.hid (by omega)
  clear hs0 hn0
  clear heq0
  have KS := Lib.hid (fun v W h => specAsk_any v xs ag A W h)
  have KI := Lib.hid (fun v W h => implAsk_any v xs ag A W h)
  have HMR := Lib.hid (@ask_size ag A xs)
  unfold EvAns2 at KS KI
  generalize (askR ag A xs).getD ⟨[], [], 0⟩ = mr at *
  generalize (askR ag A xs).isSome = ok at *
  go_enter Try.func7, Try.ntmps7
  have B1 := Lib.hid (Below.refl w.heap.size w)
  go_wp2_with fail
  refine (KZ0.out _ B1.out).mono ?_
  rintro e wq ⟨rfl, rfl⟩
  go_wp2_with fail
  refine (KT0.out _ B1.out).mono ?_
  rintro e w2 ⟨v2, rfl, ho2, hb2⟩
  have B2 : Hid (Below w.heap.size w w2) := Lib.hid (B1.out.trans (hb2.mono B1.out.size))
  clear B1
  have Z2 : Hid (w.heap.size ≤ w2.heap.size) := Lib.hid hb2.size
  have P3 := Lib.hid ho2
  clear ho2 hb2
  go_wp2_with fail
  refine (KS.out _ _ P3.out.read).mono ?_
  rintro e w3 ⟨v3, rfl, ho3, hb3⟩
  have B4 : Hid (Below w.heap.size w w3) := Lib.hid (B2.out.trans (hb3.mono B2.out.size))
  have P5 := Lib.hid (P3.out.keeps (Keeps.of_all hb3))
  clear B2 P3
  have Z3 : Hid (w2.heap.size ≤ w3.heap.size) := Lib.hid hb3.size
  have V6 := Lib.hid ho3
  clear ho3 hb3
  clear P5
  obtain ⟨fa3, fc3, ba3, bc3, e3⟩ := V6.out.read.form
  subst e3
  go_wp2_with fail
  have W7 := Lib.hid (Mcell.new (w := w3) (T := 38) (b := w3.heap.size) (fv := .slice fa3 mr.conds.length fc3) (bv := .slice ba3 mr.blocks.length bc3) (n := mr.actual) rfl)
  have hb4 : Below w3.heap.size w3 (w3.alloc (.cells #[.slice fa3 mr.conds.length fc3, .slice ba3 mr.blocks.length bc3, .int .i64 mr.actual] 38)) := by go_grown
  have hz4 : (w3.alloc (.cells #[.slice fa3 mr.conds.length fc3, .slice ba3 mr.blocks.length bc3, .int .i64 mr.actual] 38)).heap.size = w3.heap.size + 1 := by simp
  generalize w3.alloc (.cells #[.slice fa3 mr.conds.length fc3, .slice ba3 mr.blocks.length bc3, .int .i64 mr.actual] 38) = w4 at *
  have B8 : Hid (Below w.heap.size w w4) := Lib.hid (B4.out.trans (hb4.mono B4.out.size))
  have V9 := Lib.hid (V6.out.keeps (Keeps.of_all hb4))
  clear B4 V6
  have Z4 := Lib.hid hz4
  clear hb4 hz4
  refine (KT0.out _ B8.out).mono ?_
  rintro e w5 ⟨v5, rfl, ho5, hb5⟩
  have B10 : Hid (Below w.heap.size w w5) := Lib.hid (B8.out.trans (hb5.mono B8.out.size))
  have V11 := Lib.hid (V9.out.keeps (Keeps.of_all hb5))
  have W12 := Lib.hid (W7.out.below hb5)
  clear B8 V9 W7
  have Z5 : Hid (w4.heap.size ≤ w5.heap.size) := Lib.hid hb5.size
  have X13 := Lib.hid ho5
  clear ho5 hb5
  go_wp2_with fail
  refine (KI.out _ _ X13.out.read).mono ?_
  rintro e w6 ⟨v6, rfl, ho6, hb6⟩
  have B14 : Hid (Below w.heap.size w w6) := Lib.hid (B10.out.trans (hb6.mono B10.out.size))
  have V15 := Lib.hid (V11.out.keeps (Keeps.of_all hb6))
  have W16 := Lib.hid (W12.out.below hb6)
  have X17 := Lib.hid (X13.out.keeps (Keeps.of_all hb6))
  clear B10 V11 W12 X13
  have Z6 : Hid (w5.heap.size ≤ w6.heap.size) := Lib.hid hb6.size
  have S18 := Lib.hid ho6
  clear ho6 hb6
  obtain ⟨fa6, fc6, ba6, bc6, e6⟩ := S18.out.read.form
  subst e6
  obtain ⟨wc0, wc1, wc2, _⟩ := W16.out
  have wlt := W16.out.lt
  go_wp2_with fail
  clear wc0 wc1 wc2 wlt
  have Sb19 := Lib.hid (Mcell.new (w := w6) (T := 38) (b := w6.heap.size) (fv := .slice fa6 mr.conds.length fc6) (bv := .slice ba6 mr.blocks.length bc6) (n := mr.actual) rfl)
  have hb7 : Below w6.heap.size w6 (w6.alloc (.cells #[.slice fa6 mr.conds.length fc6, .slice ba6 mr.blocks.length bc6, .int .i64 mr.actual] 38)) := by go_grown
  have hz7 : (w6.alloc (.cells #[.slice fa6 mr.conds.length fc6, .slice ba6 mr.blocks.length bc6, .int .i64 mr.actual] 38)).heap.size = w6.heap.size + 1 := by simp
  generalize w6.alloc (.cells #[.slice fa6 mr.conds.length fc6, .slice ba6 mr.blocks.length bc6, .int .i64 mr.actual] 38) = w7 at *
  have B20 : Hid (Below w.heap.size w w7) := Lib.hid (B14.out.trans (hb7.mono B14.out.size))
  have V21 := Lib.hid (V15.out.keeps (Keeps.of_all hb7))
  have W22 := Lib.hid (W16.out.below hb7)
  have X23 := Lib.hid (X17.out.keeps (Keeps.of_all hb7))
  have S24 := Lib.hid (S18.out.keeps (Keeps.of_all hb7))
  clear B14 V15 W16 X17 S18
  have Z7 := Lib.hid hz7
  clear hb7 hz7
  refine (eqEvent_same _ _ _ _ _ _ mr _ S24.out.read V21.out.read).mono ?_
  rintro e w8 ⟨rfl, hb8⟩
  have B25 : Hid (Below w.heap.size w w8) := Lib.hid (B20.out.trans (hb8.mono B20.out.size))
  have V26 := Lib.hid (V21.out.keeps (Keeps.of_all hb8))
  have W27 := Lib.hid (W22.out.below hb8)
  have X28 := Lib.hid (X23.out.keeps (Keeps.of_all hb8))
  have S29 := Lib.hid (S24.out.keeps (Keeps.of_all hb8))
  have Sb30 := Lib.hid (Sb19.out.below hb8)
  clear B20 V21 W22 X23 S24 Sb19
  have Z8 : Hid (w7.heap.size ≤ w8.heap.size) := Lib.hid hb8.size
  clear hb8
  go_wp2_with fail
  refine (KT0.out _ B25.out).mono ?_
  rintro e w9 ⟨v9, rfl, ho9, hb9⟩
  have B31 : Hid (Below w.heap.size w w9) := Lib.hid (B25.out.trans (hb9.mono B25.out.size))
  have V32 := Lib.hid (V26.out.keeps (Keeps.of_all hb9))
  have W33 := Lib.hid (W27.out.below hb9)
  have X34 := Lib.hid (X28.out.keeps (Keeps.of_all hb9))
  have S35 := Lib.hid (S29.out.keeps (Keeps.of_all hb9))
  have Sb36 := Lib.hid (Sb30.out.below hb9)
  clear B25 V26 W27 X28 S29 Sb30
  have Z9 : Hid (w8.heap.size ≤ w9.heap.size) := Lib.hid hb9.size
  have T37 := Lib.hid ho9
  clear ho9 hb9
  go_wp2_with fail
  refine (eqNodeS_same _ _ xs _ X34.out.read T37.out.read).mono ?_
  rintro e w10 ⟨rfl, hb10⟩
  have B38 : Hid (Below w.heap.size w w10) := Lib.hid (B31.out.trans (hb10.mono B31.out.size))
  have V39 := Lib.hid (V32.out.keeps (Keeps.of_all hb10))
  have W40 := Lib.hid (W33.out.below hb10)
  have X41 := Lib.hid (X34.out.keeps (Keeps.of_all hb10))
  have S42 := Lib.hid (S35.out.keeps (Keeps.of_all hb10))
  have Sb43 := Lib.hid (Sb36.out.below hb10)
  have T44 := Lib.hid (T37.out.keeps (Keeps.of_all hb10))
  clear B31 V32 W33 X34 S35 Sb36 T37
  have Z10 : Hid (w9.heap.size ≤ w10.heap.size) := Lib.hid hb10.size
  clear hb10
  clear T44
  go_wp2_with fail
  refine (markNodeS_rw _ _ _ xs (1) _ (by have := HN0.out; omega) (by omega) (by have ht := HTOT.out; omega) X41.out.1).mono ?_
  rintro e w11 ⟨rfl, hm11, hg11⟩
  have ht11 : Touch w4.heap.size w5.heap.size w10 w11 := Touch.of_grown hg11 (fun k hk => ⟨(X41.out.1.lt k hk).1, X41.out.2 k hk⟩)
  clear hg11
  clear hm11
  clear X41
  have B45 : Hid (Below w.heap.size w w11) := Lib.hid (B38.out.trans (ht11.below (by have z2 := Z2.out; have z3 := Z3.out; have z4 := Z4.out; have z5 := Z5.out; have z6 := Z6.out; have z7 := Z7.out; have z8 := Z8.out; have z9 := Z9.out; have z10 := Z10.out; omega) B38.out.size))
  have V46 := Lib.hid (V39.out.keeps (ht11.keeps (by have z2 := Z2.out; have z3 := Z3.out; have z4 := Z4.out; have z5 := Z5.out; have z6 := Z6.out; have z7 := Z7.out; have z8 := Z8.out; have z9 := Z9.out; have z10 := Z10.out; omega)))
  have W47 := Lib.hid (W40.out.of_block (ht11.block _ W40.out.lt (by have z2 := Z2.out; have z3 := Z3.out; have z4 := Z4.out; have z5 := Z5.out; have z6 := Z6.out; have z7 := Z7.out; have z8 := Z8.out; have z9 := Z9.out; have z10 := Z10.out; omega)))
  have S48 := Lib.hid (S42.out.keeps (ht11.keeps (by have z2 := Z2.out; have z3 := Z3.out; have z4 := Z4.out; have z5 := Z5.out; have z6 := Z6.out; have z7 := Z7.out; have z8 := Z8.out; have z9 := Z9.out; have z10 := Z10.out; omega)))
  have Sb49 := Lib.hid (Sb43.out.of_block (ht11.block _ Sb43.out.lt (by have z2 := Z2.out; have z3 := Z3.out; have z4 := Z4.out; have z5 := Z5.out; have z6 := Z6.out; have z7 := Z7.out; have z8 := Z8.out; have z9 := Z9.out; have z10 := Z10.out; omega)))
  clear B38 V39 W40 S42 Sb43
  have Z11 : Hid (w10.heap.size ≤ w11.heap.size) := Lib.hid ht11.size
  clear ht11
  obtain ⟨sbc0, sbc1, sbc2, _⟩ := Sb49.out
  have sblt := Sb49.out.lt
  obtain ⟨wc0, wc1, wc2, _⟩ := W47.out
  have wlt := W47.out.lt
  go_wp2_with fail
  clear sbc0 sbc1 sbc2 sblt wc0 wc1 wc2 wlt
  refine (eqEvent_same _ _ _ _ _ _ mr _ S48.out.read V46.out.read).mono ?_
  rintro e w12 ⟨rfl, hb12⟩
  have B50 : Hid (Below w.heap.size w w12) := Lib.hid (B45.out.trans (hb12.mono B45.out.size))
  have V51 := Lib.hid (V46.out.keeps (Keeps.of_all hb12))
  have W52 := Lib.hid (W47.out.below hb12)
  have S53 := Lib.hid (S48.out.keeps (Keeps.of_all hb12))
  have Sb54 := Lib.hid (Sb49.out.below hb12)
  clear B45 V46 W47 S48 Sb49
  have Z12 : Hid (w11.heap.size ≤ w12.heap.size) := Lib.hid hb12.size
  clear hb12
  obtain ⟨sbc0, sbc1, sbc2, _⟩ := Sb54.out
  have sblt := Sb54.out.lt
  go_wp2_with fail
  clear sbc0 sbc1 sbc2 sblt
  refine (markEvent_own _ _ _ _ 1 _ HMR.out (by omega) (by have ht := HMR.out; have hq := @totN_nil mr.conds; unfold esize at ht; rcases Nat.eq_zero_or_pos mr.conds.length with h | h <;> (try have := hq h) <;> omega) (by have z2 := Z2.out; have z3 := Z3.out; have z4 := Z4.out; have z5 := Z5.out; have z6 := Z6.out; have z7 := Z7.out; have z8 := Z8.out; have z9 := Z9.out; have z10 := Z10.out; have z11 := Z11.out; have z12 := Z12.out; omega) S53.out).mono ?_
  rintro e w13 ⟨rfl, hm13, ht13⟩
  have H55 := Lib.hid hm13
  clear hm13
  clear S53
  have B56 : Hid (Below w.heap.size w w13) := Lib.hid (B50.out.trans (ht13.below (by have z2 := Z2.out; have z3 := Z3.out; have z4 := Z4.out; have z5 := Z5.out; have z6 := Z6.out; have z7 := Z7.out; have z8 := Z8.out; have z9 := Z9.out; have z10 := Z10.out; have z11 := Z11.out; have z12 := Z12.out; omega) B50.out.size))
  have V57 := Lib.hid (V51.out.keeps (ht13.keeps (by have z2 := Z2.out; have z3 := Z3.out; have z4 := Z4.out; have z5 := Z5.out; have z6 := Z6.out; have z7 := Z7.out; have z8 := Z8.out; have z9 := Z9.out; have z10 := Z10.out; have z11 := Z11.out; have z12 := Z12.out; omega)))
  have W58 := Lib.hid (W52.out.of_block (ht13.block _ W52.out.lt (by have z2 := Z2.out; have z3 := Z3.out; have z4 := Z4.out; have z5 := Z5.out; have z6 := Z6.out; have z7 := Z7.out; have z8 := Z8.out; have z9 := Z9.out; have z10 := Z10.out; have z11 := Z11.out; have z12 := Z12.out; omega)))
  have Sb59 := Lib.hid (Sb54.out.of_block (ht13.block _ Sb54.out.lt (by have z2 := Z2.out; have z3 := Z3.out; have z4 := Z4.out; have z5 := Z5.out; have z6 := Z6.out; have z7 := Z7.out; have z8 := Z8.out; have z9 := Z9.out; have z10 := Z10.out; have z11 := Z11.out; have z12 := Z12.out; omega)))
  clear B50 V51 W52 Sb54
  have Z13 : Hid (w12.heap.size ≤ w13.heap.size) := Lib.hid ht13.size
  clear ht13
  obtain ⟨sbc0, sbc1, sbc2, _⟩ := Sb59.out
  have sblt := Sb59.out.lt
  go_wp2_with fail
  clear sbc0 sbc1 sbc2 sblt
  refine (heldEvent_any _ _ _ mr 1 _ HMR.out (by omega) (by have ht := HMR.out; have hq := @totN_nil mr.conds; unfold esize at ht; rcases Nat.eq_zero_or_pos mr.conds.length with h | h <;> (try have := hq h) <;> omega) H55.out.read).mono ?_
  rintro e w14 ⟨rfl, hb14⟩
  have B60 : Hid (Below w.heap.size w w14) := Lib.hid (B56.out.trans (hb14.mono B56.out.size))
  have V61 := Lib.hid (V57.out.keeps (Keeps.of_all hb14))
  have W62 := Lib.hid (W58.out.below hb14)
  have Sb63 := Lib.hid (Sb59.out.below hb14)
  have H64 := Lib.hid (H55.out.keeps (Keeps.of_all hb14))
  clear B56 V57 W58 Sb59 H55
  have Z14 : Hid (w13.heap.size ≤ w14.heap.size) := Lib.hid hb14.size
  clear hb14
  go_wp2_with fail
  refine (KT0.out _ B60.out).mono ?_
  rintro e w15 ⟨v15, rfl, ho15, hb15⟩
  have B65 : Hid (Below w.heap.size w w15) := Lib.hid (B60.out.trans (hb15.mono B60.out.size))
  have V66 := Lib.hid (V61.out.keeps (Keeps.of_all hb15))
  have W67 := Lib.hid (W62.out.below hb15)
  have Sb68 := Lib.hid (Sb63.out.below hb15)
  have H69 := Lib.hid (H64.out.keeps (Keeps.of_all hb15))
  clear B60 V61 W62 Sb63 H64
  have Z15 : Hid (w14.heap.size ≤ w15.heap.size) := Lib.hid hb15.size
  have P70 := Lib.hid ho15
  clear ho15 hb15
  go_wp2_with fail
  refine (KI.out _ _ P70.out.read).mono ?_
  rintro e w16 ⟨v16, rfl, ho16, hb16⟩
  have B71 : Hid (Below w.heap.size w w16) := Lib.hid (B65.out.trans (hb16.mono B65.out.size))
  have V72 := Lib.hid (V66.out.keeps (Keeps.of_all hb16))
  have W73 := Lib.hid (W67.out.below hb16)
  have Sb74 := Lib.hid (Sb68.out.below hb16)
  have H75 := Lib.hid (H69.out.keeps (Keeps.of_all hb16))
  have P76 := Lib.hid (P70.out.keeps (Keeps.of_all hb16))
  clear B65 V66 W67 Sb68 H69 P70
  have Z16 : Hid (w15.heap.size ≤ w16.heap.size) := Lib.hid hb16.size
  have O77 := Lib.hid ho16
  clear ho16 hb16
  clear P76
  obtain ⟨fa16, fc16, ba16, bc16, e16⟩ := O77.out.read.form
  subst e16
  obtain ⟨wc0, wc1, wc2, _⟩ := W73.out
  have wlt := W73.out.lt
  go_wp2_with fail
  clear wc0 wc1 wc2 wlt
  have Ob78 := Lib.hid (Mcell.new (w := w16) (T := 38) (b := w16.heap.size) (fv := .slice fa16 mr.conds.length fc16) (bv := .slice ba16 mr.blocks.length bc16) (n := mr.actual) rfl)
  have hb17 : Below w16.heap.size w16 (w16.alloc (.cells #[.slice fa16 mr.conds.length fc16, .slice ba16 mr.blocks.length bc16, .int .i64 mr.actual] 38)) := by go_grown
  have hz17 : (w16.alloc (.cells #[.slice fa16 mr.conds.length fc16, .slice ba16 mr.blocks.length bc16, .int .i64 mr.actual] 38)).heap.size = w16.heap.size + 1 := by simp
  generalize w16.alloc (.cells #[.slice fa16 mr.conds.length fc16, .slice ba16 mr.blocks.length bc16, .int .i64 mr.actual] 38) = w17 at *
  have B79 : Hid (Below w.heap.size w w17) := Lib.hid (B71.out.trans (hb17.mono B71.out.size))
  have V80 := Lib.hid (V72.out.keeps (Keeps.of_all hb17))
  have W81 := Lib.hid (W73.out.below hb17)
  have Sb82 := Lib.hid (Sb74.out.below hb17)
  have H83 := Lib.hid (H75.out.keeps (Keeps.of_all hb17))
  have O84 := Lib.hid (O77.out.keeps (Keeps.of_all hb17))
  clear B71 V72 W73 Sb74 H75 O77
  have Z17 := Lib.hid hz17
  clear hb17 hz17
  refine (eqEvent_same _ _ _ _ _ _ mr _ O84.out.read V80.out.read).mono ?_
  rintro e w18 ⟨rfl, hb18⟩
  have B85 : Hid (Below w.heap.size w w18) := Lib.hid (B79.out.trans (hb18.mono B79.out.size))
  have V86 := Lib.hid (V80.out.keeps (Keeps.of_all hb18))
  have W87 := Lib.hid (W81.out.below hb18)
  have Sb88 := Lib.hid (Sb82.out.below hb18)
  have H89 := Lib.hid (H83.out.keeps (Keeps.of_all hb18))
  have O90 := Lib.hid (O84.out.keeps (Keeps.of_all hb18))
  have Ob91 := Lib.hid (Ob78.out.below hb18)
  clear B79 V80 W81 Sb82 H83 O84 Ob78
  have Z18 : Hid (w17.heap.size ≤ w18.heap.size) := Lib.hid hb18.size
  clear hb18
  obtain ⟨sbc0, sbc1, sbc2, _⟩ := Sb88.out
  have sblt := Sb88.out.lt
  go_wp2_with fail
  clear sbc0 sbc1 sbc2 sblt
  refine (heldEvent_any _ _ _ mr 1 _ HMR.out (by omega) (by have ht := HMR.out; have hq := @totN_nil mr.conds; unfold esize at ht; rcases Nat.eq_zero_or_pos mr.conds.length with h | h <;> (try have := hq h) <;> omega) H89.out.read).mono ?_
  rintro e w19 ⟨rfl, hb19⟩
  have B92 : Hid (Below w.heap.size w w19) := Lib.hid (B85.out.trans (hb19.mono B85.out.size))
  have V93 := Lib.hid (V86.out.keeps (Keeps.of_all hb19))
  have W94 := Lib.hid (W87.out.below hb19)
  have Sb95 := Lib.hid (Sb88.out.below hb19)
  have H96 := Lib.hid (H89.out.keeps (Keeps.of_all hb19))
  have O97 := Lib.hid (O90.out.keeps (Keeps.of_all hb19))
  have Ob98 := Lib.hid (Ob91.out.below hb19)
  clear B85 V86 W87 Sb88 H89 O90 Ob91
  have Z19 : Hid (w18.heap.size ≤ w19.heap.size) := Lib.hid hb19.size
  clear hb19
  go_wp2
  go_ret
  exact ⟨rfl, B92.out⟩
end Go.Proofs.Ytpodpadcaflehaa
