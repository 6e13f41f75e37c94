/-
  The walk of the law FnExactWorldsWhere: it returns true and writes nothing that was there. No condition.
-/
import Derived.Test.YthnpcbnpojhpoaaZTerm
import Derived.Test.YthnpcbnpojhpoaaTww
namespace Go.Proofs.Ythnpcbnpojhpoaa
open Go.RowKit Go.WideShapes
open Go Go.Deep

set_option maxRecDepth 100000 in
set_option maxHeartbeats 16000000 in
theorem walk_FnExactWorldsWhere (v00 : Value) (m : Md) (v10 : Value) (f : List Nd) (w : World) (h0 : Mv 0 w.heap.size w v00 m) (h1 : Ns w v10 f) :
    Calls Try.prog 8 #[v00, v10] w fun e w' => e = .returned (.bool true) ∧ Below w.heap.size w w' := by
  obtain ⟨fv0, bv0, rfl, hf0, hbb0⟩ := id h0
  have KZ := Lib.hid (fun W (h : Below w.heap.size w W) => szModel_any 0 w.heap.size _ m W (h0.keeps (Keeps.of_all h)))
  have KT := Lib.hid (fun W (h : Below w.heap.size w W) => toModel_any 0 w.heap.size _ m W (h0.keeps (Keeps.of_all h)) h.size)
  have KE := Lib.hid (fun lo hi lo' hi' u v W h h' => eqModel_same lo hi lo' hi' u v m W h h')
  clear h0 hf0 hbb0
  have KY1 := Lib.hid (fun left W (h : Below w.heap.size w W) hz0 hz1 => szNodeS_any v10 f left W (h1.below h (Nat.le_refl _)) hz0 hz1)
  have KN1 := Lib.hid (fun hn W (h : Below w.heap.size w W) => toNodeS_no v10 f W (h1.below h (Nat.le_refl _)) hn)
  clear h1
  by_cases hbig : 1048576 < msize m + m.blocks.length
  · rw [budget_big hbig] at KZ
    clear KT hbig KE KY1 KN1
    go_enter Try.func8, Try.ntmps8
    go_wp2_with fail
    refine (KZ.out _ (by go_grown)).mono ?_
    rintro e w1 ⟨rfl, hb1⟩
    have B1 : Hid (Below w.heap.size w w1) := Lib.hid (Below.trans (by go_grown) (hb1.mono (by simp)))
    clear hb1
    go_wp2
    go_ret
    exact ⟨rfl, B1.out⟩
  have hsm : msize m + m.blocks.length ≤ 1048576 := by omega
  rw [budget_small hsm] at KZ
  have hbn : (0 : Int) ≤ 1048576 - ((msize m + m.blocks.length : Nat) : Int) := by omega
  have HSM := Lib.hid hsm
  have hbl : 1048576 - ((msize m + m.blocks.length : Nat) : Int) ≤ 1048576 := by omega
  generalize (1048576 : Int) - ((msize m + m.blocks.length : Nat) : Int) = left at *
  clear hbig hsm
  have KY1 := Lib.hid (fun W h => KY1.out left W h hbn hbl)
  by_cases hs1 : left - (f.length : Int) < 0
  · simp only [if_pos hs1] at KY1
    clear KT KE KN1
    go_enter Try.func8, Try.ntmps8
    go_wp2_with fail
    refine (KZ.out _ (by go_grown)).mono ?_
    rintro e w1 ⟨rfl, hb1⟩
    have B1 : Hid (Below w.heap.size w w1) := Lib.hid (Below.trans (by go_grown) (hb1.mono (by simp)))
    clear hb1
    go_wp2_with fail
    refine (KY1.out _ B1.out).mono ?_
    rintro e wq ⟨rfl, rfl⟩
    go_wp2
    go_ret
    exact ⟨rfl, B1.out⟩
  simp only [if_neg hs1] at KY1
  have hn1 : f.length ≤ 1048576 := by omega
  have KN1 := Lib.hid (KN1.out hn1)
  have HN1 := Lib.hid hn1
  obtain ⟨left1, hl1⟩ : ∃ l, l = left - (f.length : Int) := ⟨_, rfl⟩
  rw [← hl1] at KY1
  have hbn : 0 ≤ left1 := by omega
  have hbl : left1 ≤ 1048576 := by omega
  clear hs1 hn1 hl1
  have KS := Lib.hid (fun lo hi v lo2 hi2 v2 W h (hh : hi ≤ W.heap.size) (h2 : Nv lo2 hi2 W v2 f) => specWhere_any lo hi v v2 m f W h hh h2)
  have KI := Lib.hid (fun lo hi v lo2 hi2 v2 W h (hh : hi ≤ W.heap.size) (h2 : Nv lo2 hi2 W v2 f) => implWhere_any lo hi v v2 m f W h hh h2)
  have HRL := Lib.hid (whereR_len m f)
  unfold IntsAns at KS KI
  generalize whereR m f = rl at *
  go_enter Try.func8, Try.ntmps8
  have B0 : Hid (Below w.heap.size w w) := Lib.hid (Below.refl _ _)
  go_wp2_with fail
  have A1 := Lib.hid (Mcell.new (w := w) (T := 25) (b := w.heap.size) (fv := fv0) (bv := bv0) (n := m.actual) rfl)
  have hb1 : Below w.heap.size w (w.alloc (.cells #[fv0, bv0, .int .i64 m.actual] 25)) := by go_grown
  have hz1 : (w.alloc (.cells #[fv0, bv0, .int .i64 m.actual] 25)).heap.size = w.heap.size + 1 := by simp
  generalize w.alloc (.cells #[fv0, bv0, .int .i64 m.actual] 25) = w1 at *
  have B2 : Hid (Below w.heap.size w w1) := Lib.hid (B0.out.trans (hb1.mono B0.out.size))
  clear B0
  have Z1 := Lib.hid hz1
  clear hb1 hz1
  refine (KZ.out _ B2.out).mono ?_
  rintro e w2 ⟨rfl, hb2⟩
  have B3 : Hid (Below w.heap.size w w2) := Lib.hid (B2.out.trans (hb2.mono B2.out.size))
  have A4 := Lib.hid (A1.out.below hb2)
  clear B2 A1
  have Z2 : Hid (w1.heap.size ≤ w2.heap.size) := Lib.hid hb2.size
  clear hb2
  go_wp2_with fail
  refine (KY1.out _ B3.out).mono ?_
  rintro e wq ⟨rfl, rfl⟩
  obtain ⟨ac0, ac1, ac2, _⟩ := A4.out
  have alt := A4.out.lt
  go_wp2_with fail
  refine (KT.out _ B3.out HSM.out).mono ?_
  rintro e w3 ⟨v3, rfl, ho3, hb3⟩
  clear ac0 ac1 ac2 alt
  have B5 : Hid (Below w.heap.size w w3) := Lib.hid (B3.out.trans (hb3.mono B3.out.size))
  have A6 := Lib.hid (A4.out.below hb3)
  clear B3 A4
  have Z3 : Hid (w2.heap.size ≤ w3.heap.size) := Lib.hid hb3.size
  have P7 := Lib.hid ho3
  clear ho3 hb3
  go_wp2_with fail
  refine (KN1.out _ B5.out).mono ?_
  rintro e w4 ⟨v4, rfl, ho4, hb4⟩
  have B8 : Hid (Below w.heap.size w w4) := Lib.hid (B5.out.trans (hb4.mono B5.out.size))
  have A9 := Lib.hid (A6.out.below hb4)
  have P10 := Lib.hid (P7.out.keeps (Keeps.of_all hb4))
  clear B5 A6 P7
  have Z4 : Hid (w3.heap.size ≤ w4.heap.size) := Lib.hid hb4.size
  have Q11 := Lib.hid ho4
  clear ho4 hb4
  go_wp2_with fail
  refine (KS.out _ _ _ _ _ _ _ P10.out.read (by have z1 := Z1.out; have z2 := Z2.out; have z3 := Z3.out; have z4 := Z4.out; omega) Q11.out.read).mono ?_
  rintro e w5 ⟨v5, rfl, ho5, hb5⟩
  have B12 : Hid (Below w.heap.size w w5) := Lib.hid (B8.out.trans (hb5.mono B8.out.size))
  have A13 := Lib.hid (A9.out.below hb5)
  have P14 := Lib.hid (P10.out.keeps (Keeps.of_all hb5))
  have Q15 := Lib.hid (Q11.out.keeps (Keeps.of_all hb5))
  clear B8 A9 P10 Q11
  have Z5 : Hid (w4.heap.size ≤ w5.heap.size) := Lib.hid hb5.size
  have V16 := Lib.hid ho5
  clear ho5 hb5
  clear P14
  clear Q15
  obtain ⟨ac0, ac1, ac2, _⟩ := A13.out
  have alt := A13.out.lt
  go_wp2_with fail
  clear ac0 ac1 ac2 alt
  refine (KT.out _ B12.out HSM.out).mono ?_
  rintro e w6 ⟨v6, rfl, ho6, hb6⟩
  have B17 : Hid (Below w.heap.size w w6) := Lib.hid (B12.out.trans (hb6.mono B12.out.size))
  have A18 := Lib.hid (A13.out.below hb6)
  have V19 := Lib.hid (V16.out.keeps (Keeps.of_all hb6))
  clear B12 A13 V16
  have Z6 : Hid (w5.heap.size ≤ w6.heap.size) := Lib.hid hb6.size
  have X20 := Lib.hid ho6
  clear ho6 hb6
  obtain ⟨fa6, fc6, ba6, bc6, e6⟩ := X20.out.read.form
  subst e6
  go_wp2_with fail
  have Xb21 := Lib.hid (Mcell.new (w := w6) (T := 27) (b := w6.heap.size) (fv := .slice fa6 m.facts.length fc6) (bv := .slice ba6 m.blocks.length bc6) (n := m.actual) rfl)
  have hb7 : Below w6.heap.size w6 (w6.alloc (.cells #[.slice fa6 m.facts.length fc6, .slice ba6 m.blocks.length bc6, .int .i64 m.actual] 27)) := by go_grown
  have hz7 : (w6.alloc (.cells #[.slice fa6 m.facts.length fc6, .slice ba6 m.blocks.length bc6, .int .i64 m.actual] 27)).heap.size = w6.heap.size + 1 := by simp
  generalize w6.alloc (.cells #[.slice fa6 m.facts.length fc6, .slice ba6 m.blocks.length bc6, .int .i64 m.actual] 27) = w7 at *
  have B22 : Hid (Below w.heap.size w w7) := Lib.hid (B17.out.trans (hb7.mono B17.out.size))
  have A23 := Lib.hid (A18.out.below hb7)
  have V24 := Lib.hid (V19.out.keeps (Keeps.of_all hb7))
  have X25 := Lib.hid (X20.out.keeps (Keeps.of_all hb7))
  clear B17 A18 V19 X20
  have Z7 := Lib.hid hz7
  clear hb7 hz7
  refine (KN1.out _ B22.out).mono ?_
  rintro e w8 ⟨v8, rfl, ho8, hb8⟩
  have B26 : Hid (Below w.heap.size w w8) := Lib.hid (B22.out.trans (hb8.mono B22.out.size))
  have A27 := Lib.hid (A23.out.below hb8)
  have V28 := Lib.hid (V24.out.keeps (Keeps.of_all hb8))
  have X29 := Lib.hid (X25.out.keeps (Keeps.of_all hb8))
  have Xb30 := Lib.hid (Xb21.out.below hb8)
  clear B22 A23 V24 X25 Xb21
  have Z8 : Hid (w7.heap.size ≤ w8.heap.size) := Lib.hid hb8.size
  have Y31 := Lib.hid ho8
  clear ho8 hb8
  obtain ⟨xbc0, xbc1, xbc2, _⟩ := Xb30.out
  have xblt := Xb30.out.lt
  go_wp2_with fail
  clear xbc0 xbc1 xbc2 xblt
  refine (KI.out _ _ _ _ _ _ _ X29.out.read (by have z1 := Z1.out; have z2 := Z2.out; have z3 := Z3.out; have z4 := Z4.out; have z5 := Z5.out; have z6 := Z6.out; have z7 := Z7.out; have z8 := Z8.out; omega) Y31.out.read).mono ?_
  rintro e w9 ⟨v9, rfl, ho9, hb9⟩
  have B32 : Hid (Below w.heap.size w w9) := Lib.hid (B26.out.trans (hb9.mono B26.out.size))
  have A33 := Lib.hid (A27.out.below hb9)
  have V34 := Lib.hid (V28.out.keeps (Keeps.of_all hb9))
  have X35 := Lib.hid (X29.out.keeps (Keeps.of_all hb9))
  have Xb36 := Lib.hid (Xb30.out.below hb9)
  have Y37 := Lib.hid (Y31.out.keeps (Keeps.of_all hb9))
  clear B26 A27 V28 X29 Xb30 Y31
  have Z9 : Hid (w8.heap.size ≤ w9.heap.size) := Lib.hid hb9.size
  have S38 := Lib.hid ho9
  clear ho9 hb9
  go_wp2_with fail
  refine (eqIntS_same _ _ _ _ _ _ _ _ S38.out.read V34.out.read).mono ?_
  rintro e w10 ⟨rfl, nq10, hd10⟩
  have hb10 : Below w9.heap.size w9 w10 := by rw [hd10]; exact below_drewN' (Below.refl _ _) nq10
  clear hd10
  have B39 : Hid (Below w.heap.size w w10) := Lib.hid (B32.out.trans (hb10.mono B32.out.size))
  have A40 := Lib.hid (A33.out.below hb10)
  have V41 := Lib.hid (V34.out.keeps (Keeps.of_all hb10))
  have X42 := Lib.hid (X35.out.keeps (Keeps.of_all hb10))
  have Xb43 := Lib.hid (Xb36.out.below hb10)
  have Y44 := Lib.hid (Y37.out.keeps (Keeps.of_all hb10))
  have S45 := Lib.hid (S38.out.keeps (Keeps.of_all hb10))
  clear B32 A33 V34 X35 Xb36 Y37 S38
  have Z10 : Hid (w9.heap.size ≤ w10.heap.size) := Lib.hid hb10.size
  clear hb10
  go_wp2
  refine wp_region_held_drew (S := fun w' => Below w10.heap.size w10 w') (by kernel_rfl) (Below.refl _ _).drew (fun hHeld => ?_)
  refine wpAnyH_take (i := 0) (v := .agg #[.slice fa6 m.facts.length fc6, .slice ba6 m.blocks.length bc6, .int .i64 m.actual]) rfl (by kernel_rfl) (by kernel_rfl) (by kernel_rfl) (fun _ _ _ h => h) (Or.inl ⟨by rfl, by intro W hSw; obtain ⟨c0, c1, c2, _⟩ := Xb43.out.below hSw; go_simp⟩) hHeld ?_
  simp only [Act.put]
  refine wpAnyH_take (i := 1) (v := .agg #[fv0, bv0, .int .i64 m.actual]) rfl (by kernel_rfl) (by kernel_rfl) (by kernel_rfl) (fun _ _ _ h => h) (Or.inl ⟨by rfl, by intro W hSw; obtain ⟨c0, c1, c2, _⟩ := A40.out.below hSw; go_simp⟩) hHeld ?_
  simp only [Act.put]
  refine wpAnyH_ready (rs := [2]) (by kernel_rfl) (by simp) ?_
  refine AllReadyH.cons rfl (fun K hK => ?_) AllReadyH.nil
  go_simp
  refine (KT.out _ (B39.out.trans (hHeld.mono B39.out.size)) HSM.out).mono ?_
  rintro e w11 ⟨v11, rfl, ho11, hb11⟩
  have hB11 : Below w10.heap.size w10 w11 := hHeld.trans (hb11.mono hHeld.size)
  have M11 := Lib.hid ho11.read
  clear ho11 hb11 hHeld
  refine hK.out _ _ hB11 (fun hHeld => ?_)
  clear hK K
  refine wpAnyH_ready (rs := [3]) (by kernel_rfl) (by simp) ?_
  refine AllReadyH.cons rfl (fun K hK => ?_) AllReadyH.nil
  go_simp
  refine (KE.out _ _ _ _ _ _ _ (X42.out.read.keeps (Keeps.of_all hB11)) M11.out).mono ?_
  rintro e w12 ⟨rfl, hb12⟩
  have hB12 : Below w10.heap.size w10 w12 := hB11.trans (hb12.mono hB11.size)
  clear hB11 hb12 hHeld M11
  refine hK.out _ _ hB12 (fun hHeld => ?_)
  clear hK K
  refine wpAnyH_take (i := 4) (v := .bool false) rfl (by kernel_rfl) (by kernel_rfl) (by kernel_rfl) (fun _ _ _ h => h) (Or.inl ⟨by rfl, by intro w hSw; go_simp⟩) hHeld ?_
  simp only [Act.put]
  refine wpAnyH_done (by kernel_rfl) ?_ _
  clear hHeld
  have B46 : Hid (Below w.heap.size w w12) := Lib.hid (B39.out.trans (hB12.mono B39.out.size))
  have A47 := Lib.hid (A40.out.below hB12)
  have V48 := Lib.hid (V41.out.keeps (Keeps.of_all hB12))
  have X49 := Lib.hid (X42.out.keeps (Keeps.of_all hB12))
  have Xb50 := Lib.hid (Xb43.out.below hB12)
  have Y51 := Lib.hid (Y44.out.keeps (Keeps.of_all hB12))
  have S52 := Lib.hid (S45.out.keeps (Keeps.of_all hB12))
  clear B39 A40 V41 X42 Xb43 Y44 S45
  have Z12 : Hid (w10.heap.size ≤ w12.heap.size) := Lib.hid hB12.size
  clear hB12
  go_wp2_with fail
  refine (KN1.out _ B46.out).mono ?_
  rintro e w13 ⟨v13, rfl, ho13, hb13⟩
  have B53 : Hid (Below w.heap.size w w13) := Lib.hid (B46.out.trans (hb13.mono B46.out.size))
  have A54 := Lib.hid (A47.out.below hb13)
  have V55 := Lib.hid (V48.out.keeps (Keeps.of_all hb13))
  have X56 := Lib.hid (X49.out.keeps (Keeps.of_all hb13))
  have Xb57 := Lib.hid (Xb50.out.below hb13)
  have Y58 := Lib.hid (Y51.out.keeps (Keeps.of_all hb13))
  have S59 := Lib.hid (S52.out.keeps (Keeps.of_all hb13))
  clear B46 A47 V48 X49 Xb50 Y51 S52
  have Z13 : Hid (w12.heap.size ≤ w13.heap.size) := Lib.hid hb13.size
  have T60 := Lib.hid ho13
  clear ho13 hb13
  go_wp2_with fail
  refine (eqNodeS_same _ _ f _ Y58.out.read T60.out.read).mono ?_
  rintro e w14 ⟨rfl, hb14⟩
  have B61 : Hid (Below w.heap.size w w14) := Lib.hid (B53.out.trans (hb14.mono B53.out.size))
  have A62 := Lib.hid (A54.out.below hb14)
  have V63 := Lib.hid (V55.out.keeps (Keeps.of_all hb14))
  have X64 := Lib.hid (X56.out.keeps (Keeps.of_all hb14))
  have Xb65 := Lib.hid (Xb57.out.below hb14)
  have Y66 := Lib.hid (Y58.out.keeps (Keeps.of_all hb14))
  have S67 := Lib.hid (S59.out.keeps (Keeps.of_all hb14))
  have T68 := Lib.hid (T60.out.keeps (Keeps.of_all hb14))
  clear B53 A54 V55 X56 Xb57 Y58 S59 T60
  have Z14 : Hid (w13.heap.size ≤ w14.heap.size) := Lib.hid hb14.size
  clear hb14
  clear T68
  obtain ⟨xbc0, xbc1, xbc2, _⟩ := Xb65.out
  have xblt := Xb65.out.lt
  go_wp2_with fail
  clear xbc0 xbc1 xbc2 xblt
  refine (markModel_own _ _ _ _ (1) _ HSM.out (by have z1 := Z1.out; have z2 := Z2.out; have z3 := Z3.out; have z4 := Z4.out; have z5 := Z5.out; have z6 := Z6.out; have z7 := Z7.out; have z8 := Z8.out; have z9 := Z9.out; have z10 := Z10.out; have z12 := Z12.out; have z13 := Z13.out; have z14 := Z14.out; omega) (by have z1 := Z1.out; have z2 := Z2.out; have z3 := Z3.out; have z4 := Z4.out; have z5 := Z5.out; have z6 := Z6.out; have z7 := Z7.out; have z8 := Z8.out; have z9 := Z9.out; have z10 := Z10.out; have z12 := Z12.out; have z13 := Z13.out; have z14 := Z14.out; omega) X64.out).mono ?_
  rintro e w15 ⟨rfl, hm15, ht15⟩
  clear hm15
  clear X64
  clear Xb65
  have B69 : Hid (Below w.heap.size w w15) := Lib.hid (B61.out.trans (ht15.below (by have z1 := Z1.out; have z2 := Z2.out; have z3 := Z3.out; have z4 := Z4.out; have z5 := Z5.out; have z6 := Z6.out; have z7 := Z7.out; have z8 := Z8.out; have z9 := Z9.out; have z10 := Z10.out; have z12 := Z12.out; have z13 := Z13.out; have z14 := Z14.out; omega) B61.out.size))
  have A70 := Lib.hid (A62.out.of_block (ht15.block _ A62.out.lt (by have z1 := Z1.out; have z2 := Z2.out; have z3 := Z3.out; have z4 := Z4.out; have z5 := Z5.out; have z6 := Z6.out; have z7 := Z7.out; have z8 := Z8.out; have z9 := Z9.out; have z10 := Z10.out; have z12 := Z12.out; have z13 := Z13.out; have z14 := Z14.out; omega)))
  have V71 := Lib.hid (V63.out.keeps (ht15.keeps (by have z1 := Z1.out; have z2 := Z2.out; have z3 := Z3.out; have z4 := Z4.out; have z5 := Z5.out; have z6 := Z6.out; have z7 := Z7.out; have z8 := Z8.out; have z9 := Z9.out; have z10 := Z10.out; have z12 := Z12.out; have z13 := Z13.out; have z14 := Z14.out; omega)))
  have Y72 := Lib.hid (Y66.out.keeps (ht15.keeps (by have z1 := Z1.out; have z2 := Z2.out; have z3 := Z3.out; have z4 := Z4.out; have z5 := Z5.out; have z6 := Z6.out; have z7 := Z7.out; have z8 := Z8.out; have z9 := Z9.out; have z10 := Z10.out; have z12 := Z12.out; have z13 := Z13.out; have z14 := Z14.out; omega)))
  have S73 := Lib.hid (S67.out.keeps (ht15.keeps (by have z1 := Z1.out; have z2 := Z2.out; have z3 := Z3.out; have z4 := Z4.out; have z5 := Z5.out; have z6 := Z6.out; have z7 := Z7.out; have z8 := Z8.out; have z9 := Z9.out; have z10 := Z10.out; have z12 := Z12.out; have z13 := Z13.out; have z14 := Z14.out; omega)))
  clear B61 A62 V63 Y66 S67
  have Z15 : Hid (w14.heap.size ≤ w15.heap.size) := Lib.hid ht15.size
  clear ht15
  go_wp2_with fail
  refine (markNodeS_rw _ _ _ f ((1 + msize m)) _ (by have := HN1.out; omega) (by omega) (by have hsm := HSM.out; omega) Y72.out.1).mono ?_
  rintro e w16 ⟨rfl, hm16, hg16⟩
  have ht16 : Touch w7.heap.size w8.heap.size w15 w16 := Touch.of_grown hg16 (fun k hk => ⟨(Y72.out.1.lt k hk).1, Y72.out.2 k hk⟩)
  clear hg16
  clear hm16
  clear Y72
  have B74 : Hid (Below w.heap.size w w16) := Lib.hid (B69.out.trans (ht16.below (by have z1 := Z1.out; have z2 := Z2.out; have z3 := Z3.out; have z4 := Z4.out; have z5 := Z5.out; have z6 := Z6.out; have z7 := Z7.out; have z8 := Z8.out; have z9 := Z9.out; have z10 := Z10.out; have z12 := Z12.out; have z13 := Z13.out; have z14 := Z14.out; have z15 := Z15.out; omega) B69.out.size))
  have A75 := Lib.hid (A70.out.of_block (ht16.block _ A70.out.lt (by have z1 := Z1.out; have z2 := Z2.out; have z3 := Z3.out; have z4 := Z4.out; have z5 := Z5.out; have z6 := Z6.out; have z7 := Z7.out; have z8 := Z8.out; have z9 := Z9.out; have z10 := Z10.out; have z12 := Z12.out; have z13 := Z13.out; have z14 := Z14.out; have z15 := Z15.out; omega)))
  have V76 := Lib.hid (V71.out.keeps (ht16.keeps (by have z1 := Z1.out; have z2 := Z2.out; have z3 := Z3.out; have z4 := Z4.out; have z5 := Z5.out; have z6 := Z6.out; have z7 := Z7.out; have z8 := Z8.out; have z9 := Z9.out; have z10 := Z10.out; have z12 := Z12.out; have z13 := Z13.out; have z14 := Z14.out; have z15 := Z15.out; omega)))
  have S77 := Lib.hid (S73.out.keeps (ht16.keeps (by have z1 := Z1.out; have z2 := Z2.out; have z3 := Z3.out; have z4 := Z4.out; have z5 := Z5.out; have z6 := Z6.out; have z7 := Z7.out; have z8 := Z8.out; have z9 := Z9.out; have z10 := Z10.out; have z12 := Z12.out; have z13 := Z13.out; have z14 := Z14.out; have z15 := Z15.out; omega)))
  clear B69 A70 V71 S73
  have Z16 : Hid (w15.heap.size ≤ w16.heap.size) := Lib.hid ht16.size
  clear ht16
  go_wp2_with fail
  refine (eqIntS_same _ _ _ _ _ _ _ _ S77.out.read V76.out.read).mono ?_
  rintro e w17 ⟨rfl, nq17, hd17⟩
  have hb17 : Below w16.heap.size w16 w17 := by rw [hd17]; exact below_drewN' (Below.refl _ _) nq17
  clear hd17
  have B78 : Hid (Below w.heap.size w w17) := Lib.hid (B74.out.trans (hb17.mono B74.out.size))
  have A79 := Lib.hid (A75.out.below hb17)
  have V80 := Lib.hid (V76.out.keeps (Keeps.of_all hb17))
  have S81 := Lib.hid (S77.out.keeps (Keeps.of_all hb17))
  clear B74 A75 V76 S77
  have Z17 : Hid (w16.heap.size ≤ w17.heap.size) := Lib.hid hb17.size
  clear hb17
  go_wp2_with fail
  refine (markIntS_row _ _ _ _ 1 _ (by have := HRL.out; omega) (by omega) S81.out).mono ?_
  rintro e w18 ⟨rfl, hm18, hg18⟩
  have ht18 : Touch w8.heap.size w9.heap.size w17 w18 := Touch.of_grown hg18 (fun k hk => ⟨(S81.out.1.lt k hk).1, S81.out.2 k hk⟩)
  clear hg18
  have H82 := Lib.hid hm18
  clear hm18
  clear S81
  have B83 : Hid (Below w.heap.size w w18) := Lib.hid (B78.out.trans (ht18.below (by have z1 := Z1.out; have z2 := Z2.out; have z3 := Z3.out; have z4 := Z4.out; have z5 := Z5.out; have z6 := Z6.out; have z7 := Z7.out; have z8 := Z8.out; have z9 := Z9.out; have z10 := Z10.out; have z12 := Z12.out; have z13 := Z13.out; have z14 := Z14.out; have z15 := Z15.out; have z16 := Z16.out; have z17 := Z17.out; omega) B78.out.size))
  have A84 := Lib.hid (A79.out.of_block (ht18.block _ A79.out.lt (by have z1 := Z1.out; have z2 := Z2.out; have z3 := Z3.out; have z4 := Z4.out; have z5 := Z5.out; have z6 := Z6.out; have z7 := Z7.out; have z8 := Z8.out; have z9 := Z9.out; have z10 := Z10.out; have z12 := Z12.out; have z13 := Z13.out; have z14 := Z14.out; have z15 := Z15.out; have z16 := Z16.out; have z17 := Z17.out; omega)))
  have V85 := Lib.hid (V80.out.keeps (ht18.keeps (by have z1 := Z1.out; have z2 := Z2.out; have z3 := Z3.out; have z4 := Z4.out; have z5 := Z5.out; have z6 := Z6.out; have z7 := Z7.out; have z8 := Z8.out; have z9 := Z9.out; have z10 := Z10.out; have z12 := Z12.out; have z13 := Z13.out; have z14 := Z14.out; have z15 := Z15.out; have z16 := Z16.out; have z17 := Z17.out; omega)))
  clear B78 A79 V80
  have Z18 : Hid (w17.heap.size ≤ w18.heap.size) := Lib.hid ht18.size
  clear ht18
  go_wp2_with fail
  refine (heldIntS_any _ _ _ rl.length 1 _ (by have := HRL.out; omega) (by omega) H82.out.read).mono ?_
  rintro e wq ⟨rfl, rfl⟩
  obtain ⟨ac0, ac1, ac2, _⟩ := A84.out
  have alt := A84.out.lt
  go_wp2_with fail
  refine (KT.out _ B83.out HSM.out).mono ?_
  rintro e w19 ⟨v19, rfl, ho19, hb19⟩
  clear ac0 ac1 ac2 alt
  have B86 : Hid (Below w.heap.size w w19) := Lib.hid (B83.out.trans (hb19.mono B83.out.size))
  have A87 := Lib.hid (A84.out.below hb19)
  have V88 := Lib.hid (V85.out.keeps (Keeps.of_all hb19))
  have H89 := Lib.hid (H82.out.keeps (Keeps.of_all hb19))
  clear B83 A84 V85 H82
  have Z19 : Hid (w18.heap.size ≤ w19.heap.size) := Lib.hid hb19.size
  have P90 := Lib.hid ho19
  clear ho19 hb19
  go_wp2_with fail
  refine (KN1.out _ B86.out).mono ?_
  rintro e w20 ⟨v20, rfl, ho20, hb20⟩
  have B91 : Hid (Below w.heap.size w w20) := Lib.hid (B86.out.trans (hb20.mono B86.out.size))
  have A92 := Lib.hid (A87.out.below hb20)
  have V93 := Lib.hid (V88.out.keeps (Keeps.of_all hb20))
  have H94 := Lib.hid (H89.out.keeps (Keeps.of_all hb20))
  have P95 := Lib.hid (P90.out.keeps (Keeps.of_all hb20))
  clear B86 A87 V88 H89 P90
  have Z20 : Hid (w19.heap.size ≤ w20.heap.size) := Lib.hid hb20.size
  have Q96 := Lib.hid ho20
  clear ho20 hb20
  go_wp2_with fail
  refine (KI.out _ _ _ _ _ _ _ P95.out.read (by have z1 := Z1.out; have z2 := Z2.out; have z3 := Z3.out; have z4 := Z4.out; have z5 := Z5.out; have z6 := Z6.out; have z7 := Z7.out; have z8 := Z8.out; have z9 := Z9.out; have z10 := Z10.out; have z12 := Z12.out; have z13 := Z13.out; have z14 := Z14.out; have z15 := Z15.out; have z16 := Z16.out; have z17 := Z17.out; have z18 := Z18.out; have z19 := Z19.out; have z20 := Z20.out; omega) Q96.out.read).mono ?_
  rintro e w21 ⟨v21, rfl, ho21, hb21⟩
  have B97 : Hid (Below w.heap.size w w21) := Lib.hid (B91.out.trans (hb21.mono B91.out.size))
  have A98 := Lib.hid (A92.out.below hb21)
  have V99 := Lib.hid (V93.out.keeps (Keeps.of_all hb21))
  have H100 := Lib.hid (H94.out.keeps (Keeps.of_all hb21))
  have P101 := Lib.hid (P95.out.keeps (Keeps.of_all hb21))
  have Q102 := Lib.hid (Q96.out.keeps (Keeps.of_all hb21))
  clear B91 A92 V93 H94 P95 Q96
  have Z21 : Hid (w20.heap.size ≤ w21.heap.size) := Lib.hid hb21.size
  have O103 := Lib.hid ho21
  clear ho21 hb21
  clear P101
  clear Q102
  go_wp2_with fail
  refine (eqIntS_same _ _ _ _ _ _ _ _ O103.out.read V99.out.read).mono ?_
  rintro e w22 ⟨rfl, nq22, hd22⟩
  have hb22 : Below w21.heap.size w21 w22 := by rw [hd22]; exact below_drewN' (Below.refl _ _) nq22
  clear hd22
  have B104 : Hid (Below w.heap.size w w22) := Lib.hid (B97.out.trans (hb22.mono B97.out.size))
  have A105 := Lib.hid (A98.out.below hb22)
  have V106 := Lib.hid (V99.out.keeps (Keeps.of_all hb22))
  have H107 := Lib.hid (H100.out.keeps (Keeps.of_all hb22))
  have O108 := Lib.hid (O103.out.keeps (Keeps.of_all hb22))
  clear B97 A98 V99 H100 O103
  have Z22 : Hid (w21.heap.size ≤ w22.heap.size) := Lib.hid hb22.size
  clear hb22
  go_wp2_with fail
  refine (heldIntS_any _ _ _ rl.length 1 _ (by have := HRL.out; omega) (by omega) H107.out.read).mono ?_
  rintro e wq ⟨rfl, rfl⟩
  go_wp2
  go_ret
  exact ⟨rfl, B104.out⟩
end Go.Proofs.Ythnpcbnpojhpoaa
