/-
  The walk of the law FnExactMeetsAfter: it returns true and writes nothing that was there. No condition.
-/
import Derived.Test.YtodjohdbngbpaaaGreatMaf
import Derived.Test.YtodjohdbngbpaaaGreatZTerm
namespace Go.Proofs.YtodjohdbngbpaaaGreat
open Go.RowKit Go.WideShapes
open Go Go.Deep

set_option maxRecDepth 100000 in
set_option maxHeartbeats 16000000 in
theorem walk_FnExactMeetsAfter (v00 : Value) (m : Md) (v10 : Value) (f : List Nd) (v20 : Value) (g : List Nd) (w : World) (h0 : Mv 0 w.heap.size w v00 m) (h1 : Ns w v10 f) (h2 : Ns w v20 g) :
    Calls Tryz.prog 9 #[v00, v10, v20] w fun e w' => e = .returned (.bool true) ∧ Below w.heap.size w w' := by
  obtain ⟨fv0, bv0, rfl, hf0, hbb0⟩ := id h0
  have KZ := Lib.hid (fun W (h : Below w.heap.size w W) => szModel_any 0 w.heap.size _ m W (h0.keeps (Keeps.of_all h)))
  have KT := Lib.hid (fun W (h : Below w.heap.size w W) => toModel_any 0 w.heap.size _ m W (h0.keeps (Keeps.of_all h)) h.size)
  have KE := Lib.hid (fun lo hi lo' hi' u v W h h' => eqModel_same lo hi lo' hi' u v m W h h')
  clear h0 hf0 hbb0
  have KY1 := Lib.hid (fun left W (h : Below w.heap.size w W) hz0 hz1 => szNodeS_any v10 f left W (h1.below h (Nat.le_refl _)) hz0 hz1)
  have KN1 := Lib.hid (fun hn W (h : Below w.heap.size w W) => toNodeS_no v10 f W (h1.below h (Nat.le_refl _)) hn)
  clear h1
  have KY2 := Lib.hid (fun left W (h : Below w.heap.size w W) hz0 hz1 => szNodeS_any v20 g left W (h2.below h (Nat.le_refl _)) hz0 hz1)
  have KN2 := Lib.hid (fun hn W (h : Below w.heap.size w W) => toNodeS_no v20 g W (h2.below h (Nat.le_refl _)) hn)
  clear h2
  by_cases hbig : 1048576 < msize m + m.blocks.length
  · rw [budget_big hbig] at KZ
    clear KT hbig KE KY1 KN1 KY2 KN2
    go_enter Tryz.func9, Tryz.ntmps9
    go_wp2_with fail
    refine (KZ.out _ (by go_grown)).mono ?_
    rintro e w1 ⟨rfl, hb1⟩
    have B1 : Hid (Below w.heap.size w w1) := Lib.hid (Below.trans (by go_grown) (hb1.mono (by simp)))
    clear hb1
    go_wp2
    go_ret
    exact ⟨rfl, B1.out⟩
  have hsm : msize m + m.blocks.length ≤ 1048576 := by omega
  rw [budget_small hsm] at KZ
  have hbn : (0 : Int) ≤ 1048576 - ((msize m + m.blocks.length : Nat) : Int) := by omega
  have HSM := Lib.hid hsm
  have hbl : 1048576 - ((msize m + m.blocks.length : Nat) : Int) ≤ 1048576 := by omega
  generalize (1048576 : Int) - ((msize m + m.blocks.length : Nat) : Int) = left at *
  clear hbig hsm
  have KY1 := Lib.hid (fun W h => KY1.out left W h hbn hbl)
  by_cases hs1 : left - (f.length : Int) < 0
  · simp only [if_pos hs1] at KY1
    clear KT KE KN1 KN2 KY2
    go_enter Tryz.func9, Tryz.ntmps9
    go_wp2_with fail
    refine (KZ.out _ (by go_grown)).mono ?_
    rintro e w1 ⟨rfl, hb1⟩
    have B1 : Hid (Below w.heap.size w w1) := Lib.hid (Below.trans (by go_grown) (hb1.mono (by simp)))
    clear hb1
    go_wp2_with fail
    refine (KY1.out _ B1.out).mono ?_
    rintro e wq ⟨rfl, rfl⟩
    go_wp2
    go_ret
    exact ⟨rfl, B1.out⟩
  simp only [if_neg hs1] at KY1
  have hn1 : f.length ≤ 1048576 := by omega
  have KN1 := Lib.hid (KN1.out hn1)
  have HN1 := Lib.hid hn1
  obtain ⟨left1, hl1⟩ : ∃ l, l = left - (f.length : Int) := ⟨_, rfl⟩
  rw [← hl1] at KY1
  have hbn : 0 ≤ left1 := by omega
  have hbl : left1 ≤ 1048576 := by omega
  clear hs1 hn1 hl1
  have KY2 := Lib.hid (fun W h => KY2.out left1 W h hbn hbl)
  by_cases hs2 : left1 - (g.length : Int) < 0
  · simp only [if_pos hs2] at KY2
    clear KT KE KN1 KN2
    go_enter Tryz.func9, Tryz.ntmps9
    go_wp2_with fail
    refine (KZ.out _ (by go_grown)).mono ?_
    rintro e w1 ⟨rfl, hb1⟩
    have B1 : Hid (Below w.heap.size w w1) := Lib.hid (Below.trans (by go_grown) (hb1.mono (by simp)))
    clear hb1
    go_wp2_with fail
    refine (KY1.out _ B1.out).mono ?_
    rintro e wq ⟨rfl, rfl⟩
    go_wp2_with fail
    refine (KY2.out _ B1.out).mono ?_
    rintro e wq ⟨rfl, rfl⟩
    go_wp2
    go_ret
    exact ⟨rfl, B1.out⟩
  simp only [if_neg hs2] at KY2
  have hn2 : g.length ≤ 1048576 := by omega
  have KN2 := Lib.hid (KN2.out hn2)
  have HN2 := Lib.hid hn2
  obtain ⟨left2, hl2⟩ : ∃ l, l = left1 - (g.length : Int) := ⟨_, rfl⟩
  rw [← hl2] at KY2
  have hbn : 0 ≤ left2 := by omega
  have hbl : left2 ≤ 1048576 := by omega
  clear hs2 hn2 hl2
  have KS := Lib.hid (fun lo hi v lo2 hi2 v2 lo3 hi3 v3 W h (hh : hi ≤ W.heap.size) (h2 : Nv lo2 hi2 W v2 f) (h3 : Nv lo3 hi3 W v3 g) => specMeets_any lo hi v v2 v3 m f g W h hh h2 h3)
  have KI := Lib.hid (fun lo hi v lo2 hi2 v2 lo3 hi3 v3 W h (hh : hi ≤ W.heap.size) (h2 : Nv lo2 hi2 W v2 f) (h3 : Nv lo3 hi3 W v3 g) => implMeets_any lo hi v v2 v3 m f g W h hh h2 h3)
  generalize meetsR m f g = ok at *
  go_enter Tryz.func9, Tryz.ntmps9
  have B0 : Hid (Below w.heap.size w w) := Lib.hid (Below.refl _ _)
  go_wp2_with fail
  have A1 := Lib.hid (Mcell.new (w := w) (T := 50) (b := w.heap.size) (fv := fv0) (bv := bv0) (n := m.actual) rfl)
  have hb1 : Below w.heap.size w (w.alloc (.cells #[fv0, bv0, .int .i64 m.actual] 50)) := by go_grown
  have hz1 : (w.alloc (.cells #[fv0, bv0, .int .i64 m.actual] 50)).heap.size = w.heap.size + 1 := by simp
  generalize w.alloc (.cells #[fv0, bv0, .int .i64 m.actual] 50) = w1 at *
  have B2 : Hid (Below w.heap.size w w1) := Lib.hid (B0.out.trans (hb1.mono B0.out.size))
  clear B0
  have Z1 := Lib.hid hz1
  clear hb1 hz1
  refine (KZ.out _ B2.out).mono ?_
  rintro e w2 ⟨rfl, hb2⟩
  have B3 : Hid (Below w.heap.size w w2) := Lib.hid (B2.out.trans (hb2.mono B2.out.size))
  have A4 := Lib.hid (A1.out.below hb2)
  clear B2 A1
  have Z2 : Hid (w1.heap.size ≤ w2.heap.size) := Lib.hid hb2.size
  clear hb2
  go_wp2_with fail
  refine (KY1.out _ B3.out).mono ?_
  rintro e wq ⟨rfl, rfl⟩
  go_wp2_with fail
  refine (KY2.out _ B3.out).mono ?_
  rintro e wq ⟨rfl, rfl⟩
  obtain ⟨ac0, ac1, ac2, _⟩ := A4.out
  have alt := A4.out.lt
  go_wp2_with fail
  refine (KT.out _ B3.out HSM.out).mono ?_
  rintro e w3 ⟨v3, rfl, ho3, hb3⟩
  clear ac0 ac1 ac2 alt
  have B5 : Hid (Below w.heap.size w w3) := Lib.hid (B3.out.trans (hb3.mono B3.out.size))
  have A6 := Lib.hid (A4.out.below hb3)
  clear B3 A4
  have Z3 : Hid (w2.heap.size ≤ w3.heap.size) := Lib.hid hb3.size
  have P7 := Lib.hid ho3
  clear ho3 hb3
  go_wp2_with fail
  refine (KN1.out _ B5.out).mono ?_
  rintro e w4 ⟨v4, rfl, ho4, hb4⟩
  have B8 : Hid (Below w.heap.size w w4) := Lib.hid (B5.out.trans (hb4.mono B5.out.size))
  have A9 := Lib.hid (A6.out.below hb4)
  have P10 := Lib.hid (P7.out.keeps (Keeps.of_all hb4))
  clear B5 A6 P7
  have Z4 : Hid (w3.heap.size ≤ w4.heap.size) := Lib.hid hb4.size
  have Q11 := Lib.hid ho4
  clear ho4 hb4
  go_wp2_with fail
  refine (KN2.out _ B8.out).mono ?_
  rintro e w5 ⟨v5, rfl, ho5, hb5⟩
  have B12 : Hid (Below w.heap.size w w5) := Lib.hid (B8.out.trans (hb5.mono B8.out.size))
  have A13 := Lib.hid (A9.out.below hb5)
  have P14 := Lib.hid (P10.out.keeps (Keeps.of_all hb5))
  have Q15 := Lib.hid (Q11.out.keeps (Keeps.of_all hb5))
  clear B8 A9 P10 Q11
  have Z5 : Hid (w4.heap.size ≤ w5.heap.size) := Lib.hid hb5.size
  have R16 := Lib.hid ho5
  clear ho5 hb5
  go_wp2_with fail
  refine (KS.out _ _ _ _ _ _ _ _ _ _ P14.out.read (by have z1 := Z1.out; have z2 := Z2.out; have z3 := Z3.out; have z4 := Z4.out; have z5 := Z5.out; omega) Q15.out.read R16.out.read).mono ?_
  rintro e w6 ⟨rfl, hb6⟩
  have B17 : Hid (Below w.heap.size w w6) := Lib.hid (B12.out.trans (hb6.mono B12.out.size))
  have A18 := Lib.hid (A13.out.below hb6)
  have P19 := Lib.hid (P14.out.keeps (Keeps.of_all hb6))
  have Q20 := Lib.hid (Q15.out.keeps (Keeps.of_all hb6))
  have R21 := Lib.hid (R16.out.keeps (Keeps.of_all hb6))
  clear B12 A13 P14 Q15 R16
  have Z6 : Hid (w5.heap.size ≤ w6.heap.size) := Lib.hid hb6.size
  clear hb6
  clear P19
  clear Q20
  clear R21
  obtain ⟨ac0, ac1, ac2, _⟩ := A18.out
  have alt := A18.out.lt
  go_wp2_with fail
  clear ac0 ac1 ac2 alt
  refine (KT.out _ B17.out HSM.out).mono ?_
  rintro e w7 ⟨v7, rfl, ho7, hb7⟩
  have B22 : Hid (Below w.heap.size w w7) := Lib.hid (B17.out.trans (hb7.mono B17.out.size))
  have A23 := Lib.hid (A18.out.below hb7)
  clear B17 A18
  have Z7 : Hid (w6.heap.size ≤ w7.heap.size) := Lib.hid hb7.size
  have X24 := Lib.hid ho7
  clear ho7 hb7
  obtain ⟨fa7, fc7, ba7, bc7, e7⟩ := X24.out.read.form
  subst e7
  go_wp2_with fail
  have Xb25 := Lib.hid (Mcell.new (w := w7) (T := 26) (b := w7.heap.size) (fv := .slice fa7 m.facts.length fc7) (bv := .slice ba7 m.blocks.length bc7) (n := m.actual) rfl)
  have hb8 : Below w7.heap.size w7 (w7.alloc (.cells #[.slice fa7 m.facts.length fc7, .slice ba7 m.blocks.length bc7, .int .i64 m.actual] 26)) := by go_grown
  have hz8 : (w7.alloc (.cells #[.slice fa7 m.facts.length fc7, .slice ba7 m.blocks.length bc7, .int .i64 m.actual] 26)).heap.size = w7.heap.size + 1 := by simp
  generalize w7.alloc (.cells #[.slice fa7 m.facts.length fc7, .slice ba7 m.blocks.length bc7, .int .i64 m.actual] 26) = w8 at *
  have B26 : Hid (Below w.heap.size w w8) := Lib.hid (B22.out.trans (hb8.mono B22.out.size))
  have A27 := Lib.hid (A23.out.below hb8)
  have X28 := Lib.hid (X24.out.keeps (Keeps.of_all hb8))
  clear B22 A23 X24
  have Z8 := Lib.hid hz8
  clear hb8 hz8
  refine (KN1.out _ B26.out).mono ?_
  rintro e w9 ⟨v9, rfl, ho9, hb9⟩
  have B29 : Hid (Below w.heap.size w w9) := Lib.hid (B26.out.trans (hb9.mono B26.out.size))
  have A30 := Lib.hid (A27.out.below hb9)
  have X31 := Lib.hid (X28.out.keeps (Keeps.of_all hb9))
  have Xb32 := Lib.hid (Xb25.out.below hb9)
  clear B26 A27 X28 Xb25
  have Z9 : Hid (w8.heap.size ≤ w9.heap.size) := Lib.hid hb9.size
  have Y33 := Lib.hid ho9
  clear ho9 hb9
  go_wp2_with fail
  refine (KN2.out _ B29.out).mono ?_
  rintro e w10 ⟨v10, rfl, ho10, hb10⟩
  have B34 : Hid (Below w.heap.size w w10) := Lib.hid (B29.out.trans (hb10.mono B29.out.size))
  have A35 := Lib.hid (A30.out.below hb10)
  have X36 := Lib.hid (X31.out.keeps (Keeps.of_all hb10))
  have Xb37 := Lib.hid (Xb32.out.below hb10)
  have Y38 := Lib.hid (Y33.out.keeps (Keeps.of_all hb10))
  clear B29 A30 X31 Xb32 Y33
  have Z10 : Hid (w9.heap.size ≤ w10.heap.size) := Lib.hid hb10.size
  have U39 := Lib.hid ho10
  clear ho10 hb10
  obtain ⟨xbc0, xbc1, xbc2, _⟩ := Xb37.out
  have xblt := Xb37.out.lt
  go_wp2_with fail
  clear xbc0 xbc1 xbc2 xblt
  refine (KI.out _ _ _ _ _ _ _ _ _ _ X36.out.read (by have z1 := Z1.out; have z2 := Z2.out; have z3 := Z3.out; have z4 := Z4.out; have z5 := Z5.out; have z6 := Z6.out; have z7 := Z7.out; have z8 := Z8.out; have z9 := Z9.out; have z10 := Z10.out; omega) Y38.out.read U39.out.read).mono ?_
  rintro e w11 ⟨rfl, hb11⟩
  have B40 : Hid (Below w.heap.size w w11) := Lib.hid (B34.out.trans (hb11.mono B34.out.size))
  have A41 := Lib.hid (A35.out.below hb11)
  have X42 := Lib.hid (X36.out.keeps (Keeps.of_all hb11))
  have Xb43 := Lib.hid (Xb37.out.below hb11)
  have Y44 := Lib.hid (Y38.out.keeps (Keeps.of_all hb11))
  have U45 := Lib.hid (U39.out.keeps (Keeps.of_all hb11))
  clear B34 A35 X36 Xb37 Y38 U39
  have Z11 : Hid (w10.heap.size ≤ w11.heap.size) := Lib.hid hb11.size
  clear hb11
  go_wp2
  refine wp_region_held_drew (S := fun w' => Below w11.heap.size w11 w') (by kernel_rfl) (Below.refl _ _).drew (fun hHeld => ?_)
  refine wpAnyH_take (i := 0) (v := .agg #[.slice fa7 m.facts.length fc7, .slice ba7 m.blocks.length bc7, .int .i64 m.actual]) rfl (by kernel_rfl) (by kernel_rfl) (by kernel_rfl) (fun _ _ _ h => h) (Or.inl ⟨by rfl, by intro W hSw; obtain ⟨c0, c1, c2, _⟩ := Xb43.out.below hSw; go_simp⟩) hHeld ?_
  simp only [Act.put]
  refine wpAnyH_take (i := 1) (v := .agg #[fv0, bv0, .int .i64 m.actual]) rfl (by kernel_rfl) (by kernel_rfl) (by kernel_rfl) (fun _ _ _ h => h) (Or.inl ⟨by rfl, by intro W hSw; obtain ⟨c0, c1, c2, _⟩ := A41.out.below hSw; go_simp⟩) hHeld ?_
  simp only [Act.put]
  refine wpAnyH_ready (rs := [2]) (by kernel_rfl) (by simp) ?_
  refine AllReadyH.cons rfl (fun K hK => ?_) AllReadyH.nil
  go_simp
  refine (KT.out _ (B40.out.trans (hHeld.mono B40.out.size)) HSM.out).mono ?_
  rintro e w12 ⟨v12, rfl, ho12, hb12⟩
  have hB12 : Below w11.heap.size w11 w12 := hHeld.trans (hb12.mono hHeld.size)
  have M12 := Lib.hid ho12.read
  clear ho12 hb12 hHeld
  refine hK.out _ _ hB12 (fun hHeld => ?_)
  clear hK K
  refine wpAnyH_ready (rs := [3]) (by kernel_rfl) (by simp) ?_
  refine AllReadyH.cons rfl (fun K hK => ?_) AllReadyH.nil
  go_simp
  refine (KE.out _ _ _ _ _ _ _ (X42.out.read.keeps (Keeps.of_all hB12)) M12.out).mono ?_
  rintro e w13 ⟨rfl, hb13⟩
  have hB13 : Below w11.heap.size w11 w13 := hB12.trans (hb13.mono hB12.size)
  clear hB12 hb13 hHeld M12
  refine hK.out _ _ hB13 (fun hHeld => ?_)
  clear hK K
  refine wpAnyH_take (i := 4) (v := .bool false) rfl (by kernel_rfl) (by kernel_rfl) (by kernel_rfl) (fun _ _ _ h => h) (Or.inl ⟨by rfl, by intro w hSw; go_simp⟩) hHeld ?_
  simp only [Act.put]
  refine wpAnyH_done (by kernel_rfl) ?_ _
  clear hHeld
  have B46 : Hid (Below w.heap.size w w13) := Lib.hid (B40.out.trans (hB13.mono B40.out.size))
  have A47 := Lib.hid (A41.out.below hB13)
  have X48 := Lib.hid (X42.out.keeps (Keeps.of_all hB13))
  have Xb49 := Lib.hid (Xb43.out.below hB13)
  have Y50 := Lib.hid (Y44.out.keeps (Keeps.of_all hB13))
  have U51 := Lib.hid (U45.out.keeps (Keeps.of_all hB13))
  clear B40 A41 X42 Xb43 Y44 U45
  have Z13 : Hid (w11.heap.size ≤ w13.heap.size) := Lib.hid hB13.size
  clear hB13
  go_wp2_with fail
  refine (KN1.out _ B46.out).mono ?_
  rintro e w14 ⟨v14, rfl, ho14, hb14⟩
  have B52 : Hid (Below w.heap.size w w14) := Lib.hid (B46.out.trans (hb14.mono B46.out.size))
  have A53 := Lib.hid (A47.out.below hb14)
  have X54 := Lib.hid (X48.out.keeps (Keeps.of_all hb14))
  have Xb55 := Lib.hid (Xb49.out.below hb14)
  have Y56 := Lib.hid (Y50.out.keeps (Keeps.of_all hb14))
  have U57 := Lib.hid (U51.out.keeps (Keeps.of_all hb14))
  clear B46 A47 X48 Xb49 Y50 U51
  have Z14 : Hid (w13.heap.size ≤ w14.heap.size) := Lib.hid hb14.size
  have T58 := Lib.hid ho14
  clear ho14 hb14
  go_wp2_with fail
  refine (eqNodeS_same _ _ f _ Y56.out.read T58.out.read).mono ?_
  rintro e w15 ⟨rfl, hb15⟩
  have B59 : Hid (Below w.heap.size w w15) := Lib.hid (B52.out.trans (hb15.mono B52.out.size))
  have A60 := Lib.hid (A53.out.below hb15)
  have X61 := Lib.hid (X54.out.keeps (Keeps.of_all hb15))
  have Xb62 := Lib.hid (Xb55.out.below hb15)
  have Y63 := Lib.hid (Y56.out.keeps (Keeps.of_all hb15))
  have U64 := Lib.hid (U57.out.keeps (Keeps.of_all hb15))
  have T65 := Lib.hid (T58.out.keeps (Keeps.of_all hb15))
  clear B52 A53 X54 Xb55 Y56 U57 T58
  have Z15 : Hid (w14.heap.size ≤ w15.heap.size) := Lib.hid hb15.size
  clear hb15
  clear T65
  go_wp2_with fail
  refine (KN2.out _ B59.out).mono ?_
  rintro e w16 ⟨v16, rfl, ho16, hb16⟩
  have B66 : Hid (Below w.heap.size w w16) := Lib.hid (B59.out.trans (hb16.mono B59.out.size))
  have A67 := Lib.hid (A60.out.below hb16)
  have X68 := Lib.hid (X61.out.keeps (Keeps.of_all hb16))
  have Xb69 := Lib.hid (Xb62.out.below hb16)
  have Y70 := Lib.hid (Y63.out.keeps (Keeps.of_all hb16))
  have U71 := Lib.hid (U64.out.keeps (Keeps.of_all hb16))
  clear B59 A60 X61 Xb62 Y63 U64
  have Z16 : Hid (w15.heap.size ≤ w16.heap.size) := Lib.hid hb16.size
  have T72 := Lib.hid ho16
  clear ho16 hb16
  go_wp2_with fail
  refine (eqNodeS_same _ _ g _ U71.out.read T72.out.read).mono ?_
  rintro e w17 ⟨rfl, hb17⟩
  have B73 : Hid (Below w.heap.size w w17) := Lib.hid (B66.out.trans (hb17.mono B66.out.size))
  have A74 := Lib.hid (A67.out.below hb17)
  have X75 := Lib.hid (X68.out.keeps (Keeps.of_all hb17))
  have Xb76 := Lib.hid (Xb69.out.below hb17)
  have Y77 := Lib.hid (Y70.out.keeps (Keeps.of_all hb17))
  have U78 := Lib.hid (U71.out.keeps (Keeps.of_all hb17))
  have T79 := Lib.hid (T72.out.keeps (Keeps.of_all hb17))
  clear B66 A67 X68 Xb69 Y70 U71 T72
  have Z17 : Hid (w16.heap.size ≤ w17.heap.size) := Lib.hid hb17.size
  clear hb17
  clear T79
  go_wp2
  go_ret
  exact ⟨rfl, B73.out⟩
end Go.Proofs.YtodjohdbngbpaaaGreat
