/-
  The walk of the law FnExactLeastModel: it returns true and writes nothing that was there. No condition.
-/
import Derived.Test.YtodjohdbngbpaaaIlm
import Derived.Test.YtodjohdbngbpaaaSlm
namespace Go.Proofs.Ytodjohdbngbpaaa
open Go.RowKit Go.WideShapes
open Go Go.Deep

theorem least_size (m : Md) : msize ((leastR m).getD ⟨[], [], 0⟩) + ((leastR m).getD ⟨[], [], 0⟩).blocks.length ≤ 1048576 := by
  cases hr : leastR m with
  | none => decide
  | some x =>
    exact fits_size (md_fits (leastR_facts hr).2.1)
set_option maxRecDepth 100000 in
set_option maxHeartbeats 16000000 in
theorem walk_FnExactLeastModel (v00 : Value) (m : Md) (w : World) (h0 : Mv 0 w.heap.size w v00 m) :
    Calls Try.prog 6 #[v00] w fun e w' => e = .returned (.bool true) ∧ Below w.heap.size w w' := by
  obtain ⟨fv0, bv0, rfl, hf0, hbb0⟩ := id h0
  have KZ := Lib.hid (fun W (h : Below w.heap.size w W) => szModel_any 0 w.heap.size _ m W (h0.keeps (Keeps.of_all h)))
  have KT := Lib.hid (fun W (h : Below w.heap.size w W) => toModel_any 0 w.heap.size _ m W (h0.keeps (Keeps.of_all h)) h.size)
  have KE := Lib.hid (fun lo hi lo' hi' u v W h h' => eqModel_same lo hi lo' hi' u v m W h h')
  clear h0 hf0 hbb0
  by_cases hbig : 1048576 < msize m + m.blocks.length
  · rw [budget_big hbig] at KZ
    clear KT hbig KE
    go_enter Try.func6, Try.ntmps6
    go_wp2_with fail
    refine (KZ.out _ (by go_grown)).mono ?_
    rintro e w1 ⟨rfl, hb1⟩
    have B1 : Hid (Below w.heap.size w w1) := Lib.hid (Below.trans (by go_grown) (hb1.mono (by simp)))
    clear hb1
    go_wp2
    go_ret
    exact ⟨rfl, B1.out⟩
  have hsm : msize m + m.blocks.length ≤ 1048576 := by omega
  rw [budget_small hsm] at KZ
  have hbn : (0 : Int) ≤ 1048576 - ((msize m + m.blocks.length : Nat) : Int) := by omega
  have HSM := Lib.hid hsm
  have hbl : 1048576 - ((msize m + m.blocks.length : Nat) : Int) ≤ 1048576 := by omega
  generalize (1048576 : Int) - ((msize m + m.blocks.length : Nat) : Int) = left at *
  clear hbig hsm
  have KS := Lib.hid (fun lo hi v W h (_ : hi ≤ W.heap.size) => specLeast_any lo hi v m W h)
  have KI := Lib.hid (fun lo hi v W h hh => implLeast_any lo hi v m W h hh)
  have HMR := Lib.hid (least_size m)
  unfold MdAns2 at KS KI
  generalize (leastR m).getD ⟨[], [], 0⟩ = mr at *
  generalize (leastR m).isSome = ok at *
  go_enter Try.func6, Try.ntmps6
  have B0 : Hid (Below w.heap.size w w) := Lib.hid (Below.refl _ _)
  go_wp2_with fail
  have A1 := Lib.hid (Mcell.new (w := w) (T := 40) (b := w.heap.size) (fv := fv0) (bv := bv0) (n := m.actual) rfl)
  have hb1 : Below w.heap.size w (w.alloc (.cells #[fv0, bv0, .int .i64 m.actual] 40)) := by go_grown
  have hz1 : (w.alloc (.cells #[fv0, bv0, .int .i64 m.actual] 40)).heap.size = w.heap.size + 1 := by simp
  generalize w.alloc (.cells #[fv0, bv0, .int .i64 m.actual] 40) = w1 at *
  have B2 : Hid (Below w.heap.size w w1) := Lib.hid (B0.out.trans (hb1.mono B0.out.size))
  clear B0
  have Z1 := Lib.hid hz1
  clear hb1 hz1
  refine (KZ.out _ B2.out).mono ?_
  rintro e w2 ⟨rfl, hb2⟩
  have B3 : Hid (Below w.heap.size w w2) := Lib.hid (B2.out.trans (hb2.mono B2.out.size))
  have A4 := Lib.hid (A1.out.below hb2)
  clear B2 A1
  have Z2 : Hid (w1.heap.size ≤ w2.heap.size) := Lib.hid hb2.size
  clear hb2
  obtain ⟨ac0, ac1, ac2, _⟩ := A4.out
  have alt := A4.out.lt
  go_wp2_with fail
  refine (KT.out _ B3.out HSM.out).mono ?_
  rintro e w3 ⟨v3, rfl, ho3, hb3⟩
  clear ac0 ac1 ac2 alt
  have B5 : Hid (Below w.heap.size w w3) := Lib.hid (B3.out.trans (hb3.mono B3.out.size))
  have A6 := Lib.hid (A4.out.below hb3)
  clear B3 A4
  have Z3 : Hid (w2.heap.size ≤ w3.heap.size) := Lib.hid hb3.size
  have P7 := Lib.hid ho3
  clear ho3 hb3
  go_wp2_with fail
  refine (KS.out _ _ _ _ P7.out.read (by have z1 := Z1.out; have z2 := Z2.out; have z3 := Z3.out; omega)).mono ?_
  rintro e w4 ⟨v4, rfl, ho4, hb4⟩
  have B8 : Hid (Below w.heap.size w w4) := Lib.hid (B5.out.trans (hb4.mono B5.out.size))
  have A9 := Lib.hid (A6.out.below hb4)
  have P10 := Lib.hid (P7.out.keeps (Keeps.of_all hb4))
  clear B5 A6 P7
  have Z4 : Hid (w3.heap.size ≤ w4.heap.size) := Lib.hid hb4.size
  have V11 := Lib.hid ho4
  clear ho4 hb4
  clear P10
  obtain ⟨fa4, fc4, ba4, bc4, e4⟩ := V11.out.read.form
  subst e4
  obtain ⟨ac0, ac1, ac2, _⟩ := A9.out
  have alt := A9.out.lt
  go_wp2_with fail
  clear ac0 ac1 ac2 alt
  have W12 := Lib.hid (Mcell.new (w := w4) (T := 27) (b := w4.heap.size) (fv := .slice fa4 mr.facts.length fc4) (bv := .slice ba4 mr.blocks.length bc4) (n := mr.actual) rfl)
  have hb5 : Below w4.heap.size w4 (w4.alloc (.cells #[.slice fa4 mr.facts.length fc4, .slice ba4 mr.blocks.length bc4, .int .i64 mr.actual] 27)) := by go_grown
  have hz5 : (w4.alloc (.cells #[.slice fa4 mr.facts.length fc4, .slice ba4 mr.blocks.length bc4, .int .i64 mr.actual] 27)).heap.size = w4.heap.size + 1 := by simp
  generalize w4.alloc (.cells #[.slice fa4 mr.facts.length fc4, .slice ba4 mr.blocks.length bc4, .int .i64 mr.actual] 27) = w5 at *
  have B13 : Hid (Below w.heap.size w w5) := Lib.hid (B8.out.trans (hb5.mono B8.out.size))
  have A14 := Lib.hid (A9.out.below hb5)
  have V15 := Lib.hid (V11.out.keeps (Keeps.of_all hb5))
  clear B8 A9 V11
  have Z5 := Lib.hid hz5
  clear hb5 hz5
  refine (KT.out _ B13.out HSM.out).mono ?_
  rintro e w6 ⟨v6, rfl, ho6, hb6⟩
  have B16 : Hid (Below w.heap.size w w6) := Lib.hid (B13.out.trans (hb6.mono B13.out.size))
  have A17 := Lib.hid (A14.out.below hb6)
  have V18 := Lib.hid (V15.out.keeps (Keeps.of_all hb6))
  have W19 := Lib.hid (W12.out.below hb6)
  clear B13 A14 V15 W12
  have Z6 : Hid (w5.heap.size ≤ w6.heap.size) := Lib.hid hb6.size
  have X20 := Lib.hid ho6
  clear ho6 hb6
  obtain ⟨fa6, fc6, ba6, bc6, e6⟩ := X20.out.read.form
  subst e6
  go_wp2_with fail
  have Xb21 := Lib.hid (Mcell.new (w := w6) (T := 27) (b := w6.heap.size) (fv := .slice fa6 m.facts.length fc6) (bv := .slice ba6 m.blocks.length bc6) (n := m.actual) rfl)
  have hb7 : Below w6.heap.size w6 (w6.alloc (.cells #[.slice fa6 m.facts.length fc6, .slice ba6 m.blocks.length bc6, .int .i64 m.actual] 27)) := by go_grown
  have hz7 : (w6.alloc (.cells #[.slice fa6 m.facts.length fc6, .slice ba6 m.blocks.length bc6, .int .i64 m.actual] 27)).heap.size = w6.heap.size + 1 := by simp
  generalize w6.alloc (.cells #[.slice fa6 m.facts.length fc6, .slice ba6 m.blocks.length bc6, .int .i64 m.actual] 27) = w7 at *
  have B22 : Hid (Below w.heap.size w w7) := Lib.hid (B16.out.trans (hb7.mono B16.out.size))
  have A23 := Lib.hid (A17.out.below hb7)
  have V24 := Lib.hid (V18.out.keeps (Keeps.of_all hb7))
  have W25 := Lib.hid (W19.out.below hb7)
  have X26 := Lib.hid (X20.out.keeps (Keeps.of_all hb7))
  clear B16 A17 V18 W19 X20
  have Z7 := Lib.hid hz7
  clear hb7 hz7
  refine (KI.out _ _ _ _ X26.out.read (by have z1 := Z1.out; have z2 := Z2.out; have z3 := Z3.out; have z4 := Z4.out; have z5 := Z5.out; have z6 := Z6.out; have z7 := Z7.out; omega)).mono ?_
  rintro e w8 ⟨v8, rfl, ho8, hb8⟩
  have B27 : Hid (Below w.heap.size w w8) := Lib.hid (B22.out.trans (hb8.mono B22.out.size))
  have A28 := Lib.hid (A23.out.below hb8)
  have V29 := Lib.hid (V24.out.keeps (Keeps.of_all hb8))
  have W30 := Lib.hid (W25.out.below hb8)
  have X31 := Lib.hid (X26.out.keeps (Keeps.of_all hb8))
  have Xb32 := Lib.hid (Xb21.out.below hb8)
  clear B22 A23 V24 W25 X26 Xb21
  have Z8 : Hid (w7.heap.size ≤ w8.heap.size) := Lib.hid hb8.size
  have S33 := Lib.hid ho8
  clear ho8 hb8
  obtain ⟨fa8, fc8, ba8, bc8, e8⟩ := S33.out.read.form
  subst e8
  obtain ⟨wc0, wc1, wc2, _⟩ := W30.out
  have wlt := W30.out.lt
  go_wp2_with fail
  clear wc0 wc1 wc2 wlt
  have Sb34 := Lib.hid (Mcell.new (w := w8) (T := 27) (b := w8.heap.size) (fv := .slice fa8 mr.facts.length fc8) (bv := .slice ba8 mr.blocks.length bc8) (n := mr.actual) rfl)
  have hb9 : Below w8.heap.size w8 (w8.alloc (.cells #[.slice fa8 mr.facts.length fc8, .slice ba8 mr.blocks.length bc8, .int .i64 mr.actual] 27)) := by go_grown
  have hz9 : (w8.alloc (.cells #[.slice fa8 mr.facts.length fc8, .slice ba8 mr.blocks.length bc8, .int .i64 mr.actual] 27)).heap.size = w8.heap.size + 1 := by simp
  generalize w8.alloc (.cells #[.slice fa8 mr.facts.length fc8, .slice ba8 mr.blocks.length bc8, .int .i64 mr.actual] 27) = w9 at *
  have B35 : Hid (Below w.heap.size w w9) := Lib.hid (B27.out.trans (hb9.mono B27.out.size))
  have A36 := Lib.hid (A28.out.below hb9)
  have V37 := Lib.hid (V29.out.keeps (Keeps.of_all hb9))
  have W38 := Lib.hid (W30.out.below hb9)
  have X39 := Lib.hid (X31.out.keeps (Keeps.of_all hb9))
  have Xb40 := Lib.hid (Xb32.out.below hb9)
  have S41 := Lib.hid (S33.out.keeps (Keeps.of_all hb9))
  clear B27 A28 V29 W30 X31 Xb32 S33
  have Z9 := Lib.hid hz9
  clear hb9 hz9
  refine (eqModel_same _ _ _ _ _ _ mr _ S41.out.read V37.out.read).mono ?_
  rintro e w10 ⟨rfl, hb10⟩
  have B42 : Hid (Below w.heap.size w w10) := Lib.hid (B35.out.trans (hb10.mono B35.out.size))
  have A43 := Lib.hid (A36.out.below hb10)
  have V44 := Lib.hid (V37.out.keeps (Keeps.of_all hb10))
  have W45 := Lib.hid (W38.out.below hb10)
  have X46 := Lib.hid (X39.out.keeps (Keeps.of_all hb10))
  have Xb47 := Lib.hid (Xb40.out.below hb10)
  have S48 := Lib.hid (S41.out.keeps (Keeps.of_all hb10))
  have Sb49 := Lib.hid (Sb34.out.below hb10)
  clear B35 A36 V37 W38 X39 Xb40 S41 Sb34
  have Z10 : Hid (w9.heap.size ≤ w10.heap.size) := Lib.hid hb10.size
  clear hb10
  go_wp2
  refine wp_region_held_drew (S := fun w' => Below w10.heap.size w10 w') (by kernel_rfl) (Below.refl _ _).drew (fun hHeld => ?_)
  refine wpAnyH_take (i := 0) (v := .agg #[.slice fa6 m.facts.length fc6, .slice ba6 m.blocks.length bc6, .int .i64 m.actual]) rfl (by kernel_rfl) (by kernel_rfl) (by kernel_rfl) (fun _ _ _ h => h) (Or.inl ⟨by rfl, by intro W hSw; obtain ⟨c0, c1, c2, _⟩ := Xb47.out.below hSw; go_simp⟩) hHeld ?_
  simp only [Act.put]
  refine wpAnyH_take (i := 1) (v := .agg #[fv0, bv0, .int .i64 m.actual]) rfl (by kernel_rfl) (by kernel_rfl) (by kernel_rfl) (fun _ _ _ h => h) (Or.inl ⟨by rfl, by intro W hSw; obtain ⟨c0, c1, c2, _⟩ := A43.out.below hSw; go_simp⟩) hHeld ?_
  simp only [Act.put]
  refine wpAnyH_ready (rs := [2]) (by kernel_rfl) (by simp) ?_
  refine AllReadyH.cons rfl (fun K hK => ?_) AllReadyH.nil
  go_simp
  refine (KT.out _ (B42.out.trans (hHeld.mono B42.out.size)) HSM.out).mono ?_
  rintro e w11 ⟨v11, rfl, ho11, hb11⟩
  have hB11 : Below w10.heap.size w10 w11 := hHeld.trans (hb11.mono hHeld.size)
  have M11 := Lib.hid ho11.read
  clear ho11 hb11 hHeld
  refine hK.out _ _ hB11 (fun hHeld => ?_)
  clear hK K
  refine wpAnyH_ready (rs := [3]) (by kernel_rfl) (by simp) ?_
  refine AllReadyH.cons rfl (fun K hK => ?_) AllReadyH.nil
  go_simp
  refine (KE.out _ _ _ _ _ _ _ (X46.out.read.keeps (Keeps.of_all hB11)) M11.out).mono ?_
  rintro e w12 ⟨rfl, hb12⟩
  have hB12 : Below w10.heap.size w10 w12 := hB11.trans (hb12.mono hB11.size)
  clear hB11 hb12 hHeld M11
  refine hK.out _ _ hB12 (fun hHeld => ?_)
  clear hK K
  refine wpAnyH_take (i := 4) (v := .bool false) rfl (by kernel_rfl) (by kernel_rfl) (by kernel_rfl) (fun _ _ _ h => h) (Or.inl ⟨by rfl, by intro w hSw; go_simp⟩) hHeld ?_
  simp only [Act.put]
  refine wpAnyH_done (by kernel_rfl) ?_ _
  clear hHeld
  have B50 : Hid (Below w.heap.size w w12) := Lib.hid (B42.out.trans (hB12.mono B42.out.size))
  have A51 := Lib.hid (A43.out.below hB12)
  have V52 := Lib.hid (V44.out.keeps (Keeps.of_all hB12))
  have W53 := Lib.hid (W45.out.below hB12)
  have X54 := Lib.hid (X46.out.keeps (Keeps.of_all hB12))
  have Xb55 := Lib.hid (Xb47.out.below hB12)
  have S56 := Lib.hid (S48.out.keeps (Keeps.of_all hB12))
  have Sb57 := Lib.hid (Sb49.out.below hB12)
  clear B42 A43 V44 W45 X46 Xb47 S48 Sb49
  have Z12 : Hid (w10.heap.size ≤ w12.heap.size) := Lib.hid hB12.size
  clear hB12
  obtain ⟨xbc0, xbc1, xbc2, _⟩ := Xb55.out
  have xblt := Xb55.out.lt
  go_wp2_with fail
  clear xbc0 xbc1 xbc2 xblt
  refine (markModel_own _ _ _ _ (1) _ HSM.out (by have z1 := Z1.out; have z2 := Z2.out; have z3 := Z3.out; have z4 := Z4.out; have z5 := Z5.out; have z6 := Z6.out; have z7 := Z7.out; have z8 := Z8.out; have z9 := Z9.out; have z10 := Z10.out; have z12 := Z12.out; omega) (by have z1 := Z1.out; have z2 := Z2.out; have z3 := Z3.out; have z4 := Z4.out; have z5 := Z5.out; have z6 := Z6.out; have z7 := Z7.out; have z8 := Z8.out; have z9 := Z9.out; have z10 := Z10.out; have z12 := Z12.out; omega) X54.out).mono ?_
  rintro e w13 ⟨rfl, hm13, ht13⟩
  clear hm13
  clear X54
  clear Xb55
  have B58 : Hid (Below w.heap.size w w13) := Lib.hid (B50.out.trans (ht13.below (by have z1 := Z1.out; have z2 := Z2.out; have z3 := Z3.out; have z4 := Z4.out; have z5 := Z5.out; have z6 := Z6.out; have z7 := Z7.out; have z8 := Z8.out; have z9 := Z9.out; have z10 := Z10.out; have z12 := Z12.out; omega) B50.out.size))
  have A59 := Lib.hid (A51.out.of_block (ht13.block _ A51.out.lt (by have z1 := Z1.out; have z2 := Z2.out; have z3 := Z3.out; have z4 := Z4.out; have z5 := Z5.out; have z6 := Z6.out; have z7 := Z7.out; have z8 := Z8.out; have z9 := Z9.out; have z10 := Z10.out; have z12 := Z12.out; omega)))
  have V60 := Lib.hid (V52.out.keeps (ht13.keeps (by have z1 := Z1.out; have z2 := Z2.out; have z3 := Z3.out; have z4 := Z4.out; have z5 := Z5.out; have z6 := Z6.out; have z7 := Z7.out; have z8 := Z8.out; have z9 := Z9.out; have z10 := Z10.out; have z12 := Z12.out; omega)))
  have W61 := Lib.hid (W53.out.of_block (ht13.block _ W53.out.lt (by have z1 := Z1.out; have z2 := Z2.out; have z3 := Z3.out; have z4 := Z4.out; have z5 := Z5.out; have z6 := Z6.out; have z7 := Z7.out; have z8 := Z8.out; have z9 := Z9.out; have z10 := Z10.out; have z12 := Z12.out; omega)))
  have S62 := Lib.hid (S56.out.keeps (ht13.keeps (by have z1 := Z1.out; have z2 := Z2.out; have z3 := Z3.out; have z4 := Z4.out; have z5 := Z5.out; have z6 := Z6.out; have z7 := Z7.out; have z8 := Z8.out; have z9 := Z9.out; have z10 := Z10.out; have z12 := Z12.out; omega)))
  have Sb63 := Lib.hid (Sb57.out.of_block (ht13.block _ Sb57.out.lt (by have z1 := Z1.out; have z2 := Z2.out; have z3 := Z3.out; have z4 := Z4.out; have z5 := Z5.out; have z6 := Z6.out; have z7 := Z7.out; have z8 := Z8.out; have z9 := Z9.out; have z10 := Z10.out; have z12 := Z12.out; omega)))
  clear B50 A51 V52 W53 S56 Sb57
  have Z13 : Hid (w12.heap.size ≤ w13.heap.size) := Lib.hid ht13.size
  clear ht13
  obtain ⟨sbc0, sbc1, sbc2, _⟩ := Sb63.out
  have sblt := Sb63.out.lt
  obtain ⟨wc0, wc1, wc2, _⟩ := W61.out
  have wlt := W61.out.lt
  go_wp2_with fail
  clear sbc0 sbc1 sbc2 sblt wc0 wc1 wc2 wlt
  refine (eqModel_same _ _ _ _ _ _ mr _ S62.out.read V60.out.read).mono ?_
  rintro e w14 ⟨rfl, hb14⟩
  have B64 : Hid (Below w.heap.size w w14) := Lib.hid (B58.out.trans (hb14.mono B58.out.size))
  have A65 := Lib.hid (A59.out.below hb14)
  have V66 := Lib.hid (V60.out.keeps (Keeps.of_all hb14))
  have W67 := Lib.hid (W61.out.below hb14)
  have S68 := Lib.hid (S62.out.keeps (Keeps.of_all hb14))
  have Sb69 := Lib.hid (Sb63.out.below hb14)
  clear B58 A59 V60 W61 S62 Sb63
  have Z14 : Hid (w13.heap.size ≤ w14.heap.size) := Lib.hid hb14.size
  clear hb14
  obtain ⟨sbc0, sbc1, sbc2, _⟩ := Sb69.out
  have sblt := Sb69.out.lt
  go_wp2_with fail
  clear sbc0 sbc1 sbc2 sblt
  refine (markModel_own _ _ _ _ 1 _ HMR.out (by omega) (by have z1 := Z1.out; have z2 := Z2.out; have z3 := Z3.out; have z4 := Z4.out; have z5 := Z5.out; have z6 := Z6.out; have z7 := Z7.out; have z8 := Z8.out; have z9 := Z9.out; have z10 := Z10.out; have z12 := Z12.out; have z13 := Z13.out; have z14 := Z14.out; omega) S68.out).mono ?_
  rintro e w15 ⟨rfl, hm15, ht15⟩
  have H70 := Lib.hid hm15
  clear hm15
  clear S68
  have B71 : Hid (Below w.heap.size w w15) := Lib.hid (B64.out.trans (ht15.below (by have z1 := Z1.out; have z2 := Z2.out; have z3 := Z3.out; have z4 := Z4.out; have z5 := Z5.out; have z6 := Z6.out; have z7 := Z7.out; have z8 := Z8.out; have z9 := Z9.out; have z10 := Z10.out; have z12 := Z12.out; have z13 := Z13.out; have z14 := Z14.out; omega) B64.out.size))
  have A72 := Lib.hid (A65.out.of_block (ht15.block _ A65.out.lt (by have z1 := Z1.out; have z2 := Z2.out; have z3 := Z3.out; have z4 := Z4.out; have z5 := Z5.out; have z6 := Z6.out; have z7 := Z7.out; have z8 := Z8.out; have z9 := Z9.out; have z10 := Z10.out; have z12 := Z12.out; have z13 := Z13.out; have z14 := Z14.out; omega)))
  have V73 := Lib.hid (V66.out.keeps (ht15.keeps (by have z1 := Z1.out; have z2 := Z2.out; have z3 := Z3.out; have z4 := Z4.out; have z5 := Z5.out; have z6 := Z6.out; have z7 := Z7.out; have z8 := Z8.out; have z9 := Z9.out; have z10 := Z10.out; have z12 := Z12.out; have z13 := Z13.out; have z14 := Z14.out; omega)))
  have W74 := Lib.hid (W67.out.of_block (ht15.block _ W67.out.lt (by have z1 := Z1.out; have z2 := Z2.out; have z3 := Z3.out; have z4 := Z4.out; have z5 := Z5.out; have z6 := Z6.out; have z7 := Z7.out; have z8 := Z8.out; have z9 := Z9.out; have z10 := Z10.out; have z12 := Z12.out; have z13 := Z13.out; have z14 := Z14.out; omega)))
  have Sb75 := Lib.hid (Sb69.out.of_block (ht15.block _ Sb69.out.lt (by have z1 := Z1.out; have z2 := Z2.out; have z3 := Z3.out; have z4 := Z4.out; have z5 := Z5.out; have z6 := Z6.out; have z7 := Z7.out; have z8 := Z8.out; have z9 := Z9.out; have z10 := Z10.out; have z12 := Z12.out; have z13 := Z13.out; have z14 := Z14.out; omega)))
  clear B64 A65 V66 W67 Sb69
  have Z15 : Hid (w14.heap.size ≤ w15.heap.size) := Lib.hid ht15.size
  clear ht15
  obtain ⟨sbc0, sbc1, sbc2, _⟩ := Sb75.out
  have sblt := Sb75.out.lt
  go_wp2_with fail
  clear sbc0 sbc1 sbc2 sblt
  refine (heldModel_any _ _ _ mr 1 _ HMR.out (by omega) H70.out.read).mono ?_
  rintro e w16 ⟨rfl, hb16⟩
  have B76 : Hid (Below w.heap.size w w16) := Lib.hid (B71.out.trans (hb16.mono B71.out.size))
  have A77 := Lib.hid (A72.out.below hb16)
  have V78 := Lib.hid (V73.out.keeps (Keeps.of_all hb16))
  have W79 := Lib.hid (W74.out.below hb16)
  have Sb80 := Lib.hid (Sb75.out.below hb16)
  have H81 := Lib.hid (H70.out.keeps (Keeps.of_all hb16))
  clear B71 A72 V73 W74 Sb75 H70
  have Z16 : Hid (w15.heap.size ≤ w16.heap.size) := Lib.hid hb16.size
  clear hb16
  obtain ⟨ac0, ac1, ac2, _⟩ := A77.out
  have alt := A77.out.lt
  go_wp2_with fail
  refine (KT.out _ B76.out HSM.out).mono ?_
  rintro e w17 ⟨v17, rfl, ho17, hb17⟩
  clear ac0 ac1 ac2 alt
  have B82 : Hid (Below w.heap.size w w17) := Lib.hid (B76.out.trans (hb17.mono B76.out.size))
  have A83 := Lib.hid (A77.out.below hb17)
  have V84 := Lib.hid (V78.out.keeps (Keeps.of_all hb17))
  have W85 := Lib.hid (W79.out.below hb17)
  have Sb86 := Lib.hid (Sb80.out.below hb17)
  have H87 := Lib.hid (H81.out.keeps (Keeps.of_all hb17))
  clear B76 A77 V78 W79 Sb80 H81
  have Z17 : Hid (w16.heap.size ≤ w17.heap.size) := Lib.hid hb17.size
  have P88 := Lib.hid ho17
  clear ho17 hb17
  go_wp2_with fail
  refine (KI.out _ _ _ _ P88.out.read (by have z1 := Z1.out; have z2 := Z2.out; have z3 := Z3.out; have z4 := Z4.out; have z5 := Z5.out; have z6 := Z6.out; have z7 := Z7.out; have z8 := Z8.out; have z9 := Z9.out; have z10 := Z10.out; have z12 := Z12.out; have z13 := Z13.out; have z14 := Z14.out; have z15 := Z15.out; have z16 := Z16.out; have z17 := Z17.out; omega)).mono ?_
  rintro e w18 ⟨v18, rfl, ho18, hb18⟩
  have B89 : Hid (Below w.heap.size w w18) := Lib.hid (B82.out.trans (hb18.mono B82.out.size))
  have A90 := Lib.hid (A83.out.below hb18)
  have V91 := Lib.hid (V84.out.keeps (Keeps.of_all hb18))
  have W92 := Lib.hid (W85.out.below hb18)
  have Sb93 := Lib.hid (Sb86.out.below hb18)
  have H94 := Lib.hid (H87.out.keeps (Keeps.of_all hb18))
  have P95 := Lib.hid (P88.out.keeps (Keeps.of_all hb18))
  clear B82 A83 V84 W85 Sb86 H87 P88
  have Z18 : Hid (w17.heap.size ≤ w18.heap.size) := Lib.hid hb18.size
  have O96 := Lib.hid ho18
  clear ho18 hb18
  clear P95
  obtain ⟨fa18, fc18, ba18, bc18, e18⟩ := O96.out.read.form
  subst e18
  obtain ⟨wc0, wc1, wc2, _⟩ := W92.out
  have wlt := W92.out.lt
  go_wp2_with fail
  clear wc0 wc1 wc2 wlt
  have Ob97 := Lib.hid (Mcell.new (w := w18) (T := 27) (b := w18.heap.size) (fv := .slice fa18 mr.facts.length fc18) (bv := .slice ba18 mr.blocks.length bc18) (n := mr.actual) rfl)
  have hb19 : Below w18.heap.size w18 (w18.alloc (.cells #[.slice fa18 mr.facts.length fc18, .slice ba18 mr.blocks.length bc18, .int .i64 mr.actual] 27)) := by go_grown
  have hz19 : (w18.alloc (.cells #[.slice fa18 mr.facts.length fc18, .slice ba18 mr.blocks.length bc18, .int .i64 mr.actual] 27)).heap.size = w18.heap.size + 1 := by simp
  generalize w18.alloc (.cells #[.slice fa18 mr.facts.length fc18, .slice ba18 mr.blocks.length bc18, .int .i64 mr.actual] 27) = w19 at *
  have B98 : Hid (Below w.heap.size w w19) := Lib.hid (B89.out.trans (hb19.mono B89.out.size))
  have A99 := Lib.hid (A90.out.below hb19)
  have V100 := Lib.hid (V91.out.keeps (Keeps.of_all hb19))
  have W101 := Lib.hid (W92.out.below hb19)
  have Sb102 := Lib.hid (Sb93.out.below hb19)
  have H103 := Lib.hid (H94.out.keeps (Keeps.of_all hb19))
  have O104 := Lib.hid (O96.out.keeps (Keeps.of_all hb19))
  clear B89 A90 V91 W92 Sb93 H94 O96
  have Z19 := Lib.hid hz19
  clear hb19 hz19
  refine (eqModel_same _ _ _ _ _ _ mr _ O104.out.read V100.out.read).mono ?_
  rintro e w20 ⟨rfl, hb20⟩
  have B105 : Hid (Below w.heap.size w w20) := Lib.hid (B98.out.trans (hb20.mono B98.out.size))
  have A106 := Lib.hid (A99.out.below hb20)
  have V107 := Lib.hid (V100.out.keeps (Keeps.of_all hb20))
  have W108 := Lib.hid (W101.out.below hb20)
  have Sb109 := Lib.hid (Sb102.out.below hb20)
  have H110 := Lib.hid (H103.out.keeps (Keeps.of_all hb20))
  have O111 := Lib.hid (O104.out.keeps (Keeps.of_all hb20))
  have Ob112 := Lib.hid (Ob97.out.below hb20)
  clear B98 A99 V100 W101 Sb102 H103 O104 Ob97
  have Z20 : Hid (w19.heap.size ≤ w20.heap.size) := Lib.hid hb20.size
  clear hb20
  obtain ⟨sbc0, sbc1, sbc2, _⟩ := Sb109.out
  have sblt := Sb109.out.lt
  go_wp2_with fail
  clear sbc0 sbc1 sbc2 sblt
  refine (heldModel_any _ _ _ mr 1 _ HMR.out (by omega) H110.out.read).mono ?_
  rintro e w21 ⟨rfl, hb21⟩
  have B113 : Hid (Below w.heap.size w w21) := Lib.hid (B105.out.trans (hb21.mono B105.out.size))
  have A114 := Lib.hid (A106.out.below hb21)
  have V115 := Lib.hid (V107.out.keeps (Keeps.of_all hb21))
  have W116 := Lib.hid (W108.out.below hb21)
  have Sb117 := Lib.hid (Sb109.out.below hb21)
  have H118 := Lib.hid (H110.out.keeps (Keeps.of_all hb21))
  have O119 := Lib.hid (O111.out.keeps (Keeps.of_all hb21))
  have Ob120 := Lib.hid (Ob112.out.below hb21)
  clear B105 A106 V107 W108 Sb109 H110 O111 Ob112
  have Z21 : Hid (w20.heap.size ≤ w21.heap.size) := Lib.hid hb21.size
  clear hb21
  go_wp2
  go_ret
  exact ⟨rfl, B113.out⟩
end Go.Proofs.Ytodjohdbngbpaaa
