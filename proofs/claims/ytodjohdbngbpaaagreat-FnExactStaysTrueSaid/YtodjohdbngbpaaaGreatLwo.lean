/-
  The walk of the law FnExactStaysTrue: it returns true and writes nothing that was there. No condition.
-/
import Derived.Test.YtodjohdbngbpaaaGreatSta
import Derived.Test.YtodjohdbngbpaaaGreatZTerm
namespace Go.Proofs.YtodjohdbngbpaaaGreat
open Go.RowKit Go.WideShapes
open Go Go.Deep

set_option maxRecDepth 100000 in
set_option maxHeartbeats 16000000 in
theorem walk_FnExactStaysTrue (v00 : Value) (m : Md) (v10 : Value) (f : List Nd) (w : World) (h0 : Mv 0 w.heap.size w v00 m) (h1 : Ns w v10 f) :
    Calls Tryz.prog 8 #[v00, v10] w fun e w' => e = .returned (.bool true) ∧ Below w.heap.size w w' := by
  obtain ⟨fv0, bv0, rfl, hf0, hbb0⟩ := id h0
  have KZ := Lib.hid (fun W (h : Below w.heap.size w W) => szModel_any 0 w.heap.size _ m W (h0.keeps (Keeps.of_all h)))
  have KT := Lib.hid (fun W (h : Below w.heap.size w W) => toModel_any 0 w.heap.size _ m W (h0.keeps (Keeps.of_all h)) h.size)
  have KE := Lib.hid (fun lo hi lo' hi' u v W h h' => eqModel_same lo hi lo' hi' u v m W h h')
  clear h0 hf0 hbb0
  have KY1 := Lib.hid (fun left W (h : Below w.heap.size w W) hz0 hz1 => szNodeS_any v10 f left W (h1.below h (Nat.le_refl _)) hz0 hz1)
  have KN1 := Lib.hid (fun hn W (h : Below w.heap.size w W) => toNodeS_no v10 f W (h1.below h (Nat.le_refl _)) hn)
  clear h1
  by_cases hbig : 1048576 < msize m + m.blocks.length
  · rw [budget_big hbig] at KZ
    clear KT hbig KE KY1 KN1
    go_enter Tryz.func8, Tryz.ntmps8
    go_wp2_with fail
    refine (KZ.out _ (by go_grown)).mono ?_
    rintro e w1 ⟨rfl, hb1⟩
    have B1 : Hid (Below w.heap.size w w1) := Lib.hid (Below.trans (by go_grown) (hb1.mono (by simp)))
    clear hb1
    go_wp2
    go_ret
    exact ⟨rfl, B1.out⟩
  have hsm : msize m + m.blocks.length ≤ 1048576 := by omega
  rw [budget_small hsm] at KZ
  have hbn : (0 : Int) ≤ 1048576 - ((msize m + m.blocks.length : Nat) : Int) := by omega
  have HSM := Lib.hid hsm
  have hbl : 1048576 - ((msize m + m.blocks.length : Nat) : Int) ≤ 1048576 := by omega
  generalize (1048576 : Int) - ((msize m + m.blocks.length : Nat) : Int) = left at *
  clear hbig hsm
  have KY1 := Lib.hid (fun W h => KY1.out left W h hbn hbl)
  by_cases hs1 : left - (f.length : Int) < 0
  · simp only [if_pos hs1] at KY1
    clear KT KE KN1
    go_enter Tryz.func8, Tryz.ntmps8
    go_wp2_with fail
    refine (KZ.out _ (by go_grown)).mono ?_
    rintro e w1 ⟨rfl, hb1⟩
    have B1 : Hid (Below w.heap.size w w1) := Lib.hid (Below.trans (by go_grown) (hb1.mono (by simp)))
    clear hb1
    go_wp2_with fail
    refine (KY1.out _ B1.out).mono ?_
    rintro e wq ⟨rfl, rfl⟩
    go_wp2
    go_ret
    exact ⟨rfl, B1.out⟩
  simp only [if_neg hs1] at KY1
  have hn1 : f.length ≤ 1048576 := by omega
  have KN1 := Lib.hid (KN1.out hn1)
  have HN1 := Lib.hid hn1
  obtain ⟨left1, hl1⟩ : ∃ l, l = left - (f.length : Int) := ⟨_, rfl⟩
  rw [← hl1] at KY1
  have hbn : 0 ≤ left1 := by omega
  have hbl : left1 ≤ 1048576 := by omega
  clear hs1 hn1 hl1
  have KS := Lib.hid (fun lo hi v lo2 hi2 v2 W h (hh : hi ≤ W.heap.size) (h2 : Nv lo2 hi2 W v2 f) => specStays_any lo hi v v2 m f W h hh h2)
  have KI := Lib.hid (fun lo hi v lo2 hi2 v2 W h (hh : hi ≤ W.heap.size) (h2 : Nv lo2 hi2 W v2 f) => implStays_any lo hi v v2 m f W h hh h2)
  generalize staysR m f = ok at *
  go_enter Tryz.func8, Tryz.ntmps8
  have B0 : Hid (Below w.heap.size w w) := Lib.hid (Below.refl _ _)
  go_wp2_with fail
  have A1 := Lib.hid (Mcell.new (w := w) (T := 50) (b := w.heap.size) (fv := fv0) (bv := bv0) (n := m.actual) rfl)
  have hb1 : Below w.heap.size w (w.alloc (.cells #[fv0, bv0, .int .i64 m.actual] 50)) := by go_grown
  have hz1 : (w.alloc (.cells #[fv0, bv0, .int .i64 m.actual] 50)).heap.size = w.heap.size + 1 := by simp
  generalize w.alloc (.cells #[fv0, bv0, .int .i64 m.actual] 50) = w1 at *
  have B2 : Hid (Below w.heap.size w w1) := Lib.hid (B0.out.trans (hb1.mono B0.out.size))
  clear B0
  have Z1 := Lib.hid hz1
  clear hb1 hz1
  refine (KZ.out _ B2.out).mono ?_
  rintro e w2 ⟨rfl, hb2⟩
  have B3 : Hid (Below w.heap.size w w2) := Lib.hid (B2.out.trans (hb2.mono B2.out.size))
  have A4 := Lib.hid (A1.out.below hb2)
  clear B2 A1
  have Z2 : Hid (w1.heap.size ≤ w2.heap.size) := Lib.hid hb2.size
  clear hb2
  go_wp2_with fail
  refine (KY1.out _ B3.out).mono ?_
  rintro e wq ⟨rfl, rfl⟩
  obtain ⟨ac0, ac1, ac2, _⟩ := A4.out
  have alt := A4.out.lt
  go_wp2_with fail
  refine (KT.out _ B3.out HSM.out).mono ?_
  rintro e w3 ⟨v3, rfl, ho3, hb3⟩
  clear ac0 ac1 ac2 alt
  have B5 : Hid (Below w.heap.size w w3) := Lib.hid (B3.out.trans (hb3.mono B3.out.size))
  have A6 := Lib.hid (A4.out.below hb3)
  clear B3 A4
  have Z3 : Hid (w2.heap.size ≤ w3.heap.size) := Lib.hid hb3.size
  have P7 := Lib.hid ho3
  clear ho3 hb3
  go_wp2_with fail
  refine (KN1.out _ B5.out).mono ?_
  rintro e w4 ⟨v4, rfl, ho4, hb4⟩
  have B8 : Hid (Below w.heap.size w w4) := Lib.hid (B5.out.trans (hb4.mono B5.out.size))
  have A9 := Lib.hid (A6.out.below hb4)
  have P10 := Lib.hid (P7.out.keeps (Keeps.of_all hb4))
  clear B5 A6 P7
  have Z4 : Hid (w3.heap.size ≤ w4.heap.size) := Lib.hid hb4.size
  have Q11 := Lib.hid ho4
  clear ho4 hb4
  go_wp2_with fail
  refine (KS.out _ _ _ _ _ _ _ P10.out.read (by have z1 := Z1.out; have z2 := Z2.out; have z3 := Z3.out; have z4 := Z4.out; omega) Q11.out.read).mono ?_
  rintro e w5 ⟨rfl, hb5⟩
  have B12 : Hid (Below w.heap.size w w5) := Lib.hid (B8.out.trans (hb5.mono B8.out.size))
  have A13 := Lib.hid (A9.out.below hb5)
  have P14 := Lib.hid (P10.out.keeps (Keeps.of_all hb5))
  have Q15 := Lib.hid (Q11.out.keeps (Keeps.of_all hb5))
  clear B8 A9 P10 Q11
  have Z5 : Hid (w4.heap.size ≤ w5.heap.size) := Lib.hid hb5.size
  clear hb5
  clear P14
  clear Q15
  obtain ⟨ac0, ac1, ac2, _⟩ := A13.out
  have alt := A13.out.lt
  go_wp2_with fail
  clear ac0 ac1 ac2 alt
  refine (KT.out _ B12.out HSM.out).mono ?_
  rintro e w6 ⟨v6, rfl, ho6, hb6⟩
  have B16 : Hid (Below w.heap.size w w6) := Lib.hid (B12.out.trans (hb6.mono B12.out.size))
  have A17 := Lib.hid (A13.out.below hb6)
  clear B12 A13
  have Z6 : Hid (w5.heap.size ≤ w6.heap.size) := Lib.hid hb6.size
  have X18 := Lib.hid ho6
  clear ho6 hb6
  obtain ⟨fa6, fc6, ba6, bc6, e6⟩ := X18.out.read.form
  subst e6
  go_wp2_with fail
  have Xb19 := Lib.hid (Mcell.new (w := w6) (T := 26) (b := w6.heap.size) (fv := .slice fa6 m.facts.length fc6) (bv := .slice ba6 m.blocks.length bc6) (n := m.actual) rfl)
  have hb7 : Below w6.heap.size w6 (w6.alloc (.cells #[.slice fa6 m.facts.length fc6, .slice ba6 m.blocks.length bc6, .int .i64 m.actual] 26)) := by go_grown
  have hz7 : (w6.alloc (.cells #[.slice fa6 m.facts.length fc6, .slice ba6 m.blocks.length bc6, .int .i64 m.actual] 26)).heap.size = w6.heap.size + 1 := by simp
  generalize w6.alloc (.cells #[.slice fa6 m.facts.length fc6, .slice ba6 m.blocks.length bc6, .int .i64 m.actual] 26) = w7 at *
  have B20 : Hid (Below w.heap.size w w7) := Lib.hid (B16.out.trans (hb7.mono B16.out.size))
  have A21 := Lib.hid (A17.out.below hb7)
  have X22 := Lib.hid (X18.out.keeps (Keeps.of_all hb7))
  clear B16 A17 X18
  have Z7 := Lib.hid hz7
  clear hb7 hz7
  refine (KN1.out _ B20.out).mono ?_
  rintro e w8 ⟨v8, rfl, ho8, hb8⟩
  have B23 : Hid (Below w.heap.size w w8) := Lib.hid (B20.out.trans (hb8.mono B20.out.size))
  have A24 := Lib.hid (A21.out.below hb8)
  have X25 := Lib.hid (X22.out.keeps (Keeps.of_all hb8))
  have Xb26 := Lib.hid (Xb19.out.below hb8)
  clear B20 A21 X22 Xb19
  have Z8 : Hid (w7.heap.size ≤ w8.heap.size) := Lib.hid hb8.size
  have Y27 := Lib.hid ho8
  clear ho8 hb8
  obtain ⟨xbc0, xbc1, xbc2, _⟩ := Xb26.out
  have xblt := Xb26.out.lt
  go_wp2_with fail
  clear xbc0 xbc1 xbc2 xblt
  refine (KI.out _ _ _ _ _ _ _ X25.out.read (by have z1 := Z1.out; have z2 := Z2.out; have z3 := Z3.out; have z4 := Z4.out; have z5 := Z5.out; have z6 := Z6.out; have z7 := Z7.out; have z8 := Z8.out; omega) Y27.out.read).mono ?_
  rintro e w9 ⟨rfl, hb9⟩
  have B28 : Hid (Below w.heap.size w w9) := Lib.hid (B23.out.trans (hb9.mono B23.out.size))
  have A29 := Lib.hid (A24.out.below hb9)
  have X30 := Lib.hid (X25.out.keeps (Keeps.of_all hb9))
  have Xb31 := Lib.hid (Xb26.out.below hb9)
  have Y32 := Lib.hid (Y27.out.keeps (Keeps.of_all hb9))
  clear B23 A24 X25 Xb26 Y27
  have Z9 : Hid (w8.heap.size ≤ w9.heap.size) := Lib.hid hb9.size
  clear hb9
  go_wp2
  refine wp_region_held_drew (S := fun w' => Below w9.heap.size w9 w') (by kernel_rfl) (Below.refl _ _).drew (fun hHeld => ?_)
  refine wpAnyH_take (i := 0) (v := .agg #[.slice fa6 m.facts.length fc6, .slice ba6 m.blocks.length bc6, .int .i64 m.actual]) rfl (by kernel_rfl) (by kernel_rfl) (by kernel_rfl) (fun _ _ _ h => h) (Or.inl ⟨by rfl, by intro W hSw; obtain ⟨c0, c1, c2, _⟩ := Xb31.out.below hSw; go_simp⟩) hHeld ?_
  simp only [Act.put]
  refine wpAnyH_take (i := 1) (v := .agg #[fv0, bv0, .int .i64 m.actual]) rfl (by kernel_rfl) (by kernel_rfl) (by kernel_rfl) (fun _ _ _ h => h) (Or.inl ⟨by rfl, by intro W hSw; obtain ⟨c0, c1, c2, _⟩ := A29.out.below hSw; go_simp⟩) hHeld ?_
  simp only [Act.put]
  refine wpAnyH_ready (rs := [2]) (by kernel_rfl) (by simp) ?_
  refine AllReadyH.cons rfl (fun K hK => ?_) AllReadyH.nil
  go_simp
  refine (KT.out _ (B28.out.trans (hHeld.mono B28.out.size)) HSM.out).mono ?_
  rintro e w10 ⟨v10, rfl, ho10, hb10⟩
  have hB10 : Below w9.heap.size w9 w10 := hHeld.trans (hb10.mono hHeld.size)
  have M10 := Lib.hid ho10.read
  clear ho10 hb10 hHeld
  refine hK.out _ _ hB10 (fun hHeld => ?_)
  clear hK K
  refine wpAnyH_ready (rs := [3]) (by kernel_rfl) (by simp) ?_
  refine AllReadyH.cons rfl (fun K hK => ?_) AllReadyH.nil
  go_simp
  refine (KE.out _ _ _ _ _ _ _ (X30.out.read.keeps (Keeps.of_all hB10)) M10.out).mono ?_
  rintro e w11 ⟨rfl, hb11⟩
  have hB11 : Below w9.heap.size w9 w11 := hB10.trans (hb11.mono hB10.size)
  clear hB10 hb11 hHeld M10
  refine hK.out _ _ hB11 (fun hHeld => ?_)
  clear hK K
  refine wpAnyH_take (i := 4) (v := .bool false) rfl (by kernel_rfl) (by kernel_rfl) (by kernel_rfl) (fun _ _ _ h => h) (Or.inl ⟨by rfl, by intro w hSw; go_simp⟩) hHeld ?_
  simp only [Act.put]
  refine wpAnyH_done (by kernel_rfl) ?_ _
  clear hHeld
  have B33 : Hid (Below w.heap.size w w11) := Lib.hid (B28.out.trans (hB11.mono B28.out.size))
  have A34 := Lib.hid (A29.out.below hB11)
  have X35 := Lib.hid (X30.out.keeps (Keeps.of_all hB11))
  have Xb36 := Lib.hid (Xb31.out.below hB11)
  have Y37 := Lib.hid (Y32.out.keeps (Keeps.of_all hB11))
  clear B28 A29 X30 Xb31 Y32
  have Z11 : Hid (w9.heap.size ≤ w11.heap.size) := Lib.hid hB11.size
  clear hB11
  go_wp2_with fail
  refine (KN1.out _ B33.out).mono ?_
  rintro e w12 ⟨v12, rfl, ho12, hb12⟩
  have B38 : Hid (Below w.heap.size w w12) := Lib.hid (B33.out.trans (hb12.mono B33.out.size))
  have A39 := Lib.hid (A34.out.below hb12)
  have X40 := Lib.hid (X35.out.keeps (Keeps.of_all hb12))
  have Xb41 := Lib.hid (Xb36.out.below hb12)
  have Y42 := Lib.hid (Y37.out.keeps (Keeps.of_all hb12))
  clear B33 A34 X35 Xb36 Y37
  have Z12 : Hid (w11.heap.size ≤ w12.heap.size) := Lib.hid hb12.size
  have T43 := Lib.hid ho12
  clear ho12 hb12
  go_wp2_with fail
  refine (eqNodeS_same _ _ f _ Y42.out.read T43.out.read).mono ?_
  rintro e w13 ⟨rfl, hb13⟩
  have B44 : Hid (Below w.heap.size w w13) := Lib.hid (B38.out.trans (hb13.mono B38.out.size))
  have A45 := Lib.hid (A39.out.below hb13)
  have X46 := Lib.hid (X40.out.keeps (Keeps.of_all hb13))
  have Xb47 := Lib.hid (Xb41.out.below hb13)
  have Y48 := Lib.hid (Y42.out.keeps (Keeps.of_all hb13))
  have T49 := Lib.hid (T43.out.keeps (Keeps.of_all hb13))
  clear B38 A39 X40 Xb41 Y42 T43
  have Z13 : Hid (w12.heap.size ≤ w13.heap.size) := Lib.hid hb13.size
  clear hb13
  clear T49
  go_wp2
  go_ret
  exact ⟨rfl, B44.out⟩
end Go.Proofs.YtodjohdbngbpaaaGreat
