/-
  The walk of the law FnExactReachedFrom: it returns true and writes nothing that was there. No condition.
-/
import Derived.Test.YthnpcbnpojhpoaaZSem
namespace Go.Proofs.Ythnpcbnpojhpoaa
open Go.RowKit Go.WideShapes
open Go Go.Deep

set_option maxRecDepth 100000 in
set_option maxHeartbeats 16000000 in
theorem walk_FnExactReachedFrom (v00 : Value) (m : Md) (x : Int) (w : World) (h0 : Mv 0 w.heap.size w v00 m) (_h1 : (Lit.int .i64 x).wf = true) :
    Calls Try.prog 4 #[v00, .int .i64 x] w fun e w' => e = .returned (.bool true) ∧ Below w.heap.size w w' := by
  obtain ⟨fv0, bv0, rfl, hf0, hbb0⟩ := id h0
  have KZ := Lib.hid (fun W (h : Below w.heap.size w W) => szModel_any 0 w.heap.size _ m W (h0.keeps (Keeps.of_all h)))
  have KT := Lib.hid (fun W (h : Below w.heap.size w W) => toModel_any 0 w.heap.size _ m W (h0.keeps (Keeps.of_all h)) h.size)
  have KE := Lib.hid (fun lo hi lo' hi' u v W h h' => eqModel_same lo hi lo' hi' u v m W h h')
  clear h0 hf0 hbb0
  by_cases hbig : 1048576 < msize m + m.blocks.length
  · rw [budget_big hbig] at KZ
    clear KT hbig KE
    go_enter Try.func4, Try.ntmps4
    go_wp2_with fail
    refine (KZ.out _ (by go_grown)).mono ?_
    rintro e w1 ⟨rfl, hb1⟩
    have B1 : Hid (Below w.heap.size w w1) := Lib.hid (Below.trans (by go_grown) (hb1.mono (by simp)))
    clear hb1
    go_wp2
    go_ret
    exact ⟨rfl, B1.out⟩
  have hsm : msize m + m.blocks.length ≤ 1048576 := by omega
  rw [budget_small hsm] at KZ
  have hbn : (0 : Int) ≤ 1048576 - ((msize m + m.blocks.length : Nat) : Int) := by omega
  have HSM := Lib.hid hsm
  generalize (1048576 : Int) - ((msize m + m.blocks.length : Nat) : Int) = left at *
  clear hbig hsm
  have KS := Lib.hid (fun lo hi v W h (_ : hi ≤ W.heap.size) => specReached_any lo hi v m x W h)
  have KI := Lib.hid (fun lo hi v W h hh => implReached_any lo hi v m x W h hh)
  have HRL := Lib.hid (reachR_len m x)
  unfold IntsAns at KS KI
  generalize reachR m x = rl at *
  go_enter Try.func4, Try.ntmps4
  have B0 : Hid (Below w.heap.size w w) := Lib.hid (Below.refl _ _)
  go_wp2_with fail
  have A1 := Lib.hid (Mcell.new (w := w) (T := 25) (b := w.heap.size) (fv := fv0) (bv := bv0) (n := m.actual) rfl)
  have hb1 : Below w.heap.size w (w.alloc (.cells #[fv0, bv0, .int .i64 m.actual] 25)) := by go_grown
  have hz1 : (w.alloc (.cells #[fv0, bv0, .int .i64 m.actual] 25)).heap.size = w.heap.size + 1 := by simp
  generalize w.alloc (.cells #[fv0, bv0, .int .i64 m.actual] 25) = w1 at *
  have B2 : Hid (Below w.heap.size w w1) := Lib.hid (B0.out.trans (hb1.mono B0.out.size))
  clear B0
  have Z1 := Lib.hid hz1
  clear hb1 hz1
  refine (KZ.out _ B2.out).mono ?_
  rintro e w2 ⟨rfl, hb2⟩
  have B3 : Hid (Below w.heap.size w w2) := Lib.hid (B2.out.trans (hb2.mono B2.out.size))
  have A4 := Lib.hid (A1.out.below hb2)
  clear B2 A1
  have Z2 : Hid (w1.heap.size ≤ w2.heap.size) := Lib.hid hb2.size
  clear hb2
  obtain ⟨ac0, ac1, ac2, _⟩ := A4.out
  have alt := A4.out.lt
  go_wp2_with fail
  refine (KT.out _ B3.out HSM.out).mono ?_
  rintro e w3 ⟨v3, rfl, ho3, hb3⟩
  clear ac0 ac1 ac2 alt
  have B5 : Hid (Below w.heap.size w w3) := Lib.hid (B3.out.trans (hb3.mono B3.out.size))
  have A6 := Lib.hid (A4.out.below hb3)
  clear B3 A4
  have Z3 : Hid (w2.heap.size ≤ w3.heap.size) := Lib.hid hb3.size
  have P7 := Lib.hid ho3
  clear ho3 hb3
  go_wp2_with fail
  refine (KS.out _ _ _ _ P7.out.read (by have z1 := Z1.out; have z2 := Z2.out; have z3 := Z3.out; omega)).mono ?_
  rintro e w4 ⟨v4, rfl, ho4, hb4⟩
  have B8 : Hid (Below w.heap.size w w4) := Lib.hid (B5.out.trans (hb4.mono B5.out.size))
  have A9 := Lib.hid (A6.out.below hb4)
  have P10 := Lib.hid (P7.out.keeps (Keeps.of_all hb4))
  clear B5 A6 P7
  have Z4 : Hid (w3.heap.size ≤ w4.heap.size) := Lib.hid hb4.size
  have V11 := Lib.hid ho4
  clear ho4 hb4
  clear P10
  obtain ⟨ac0, ac1, ac2, _⟩ := A9.out
  have alt := A9.out.lt
  go_wp2_with fail
  clear ac0 ac1 ac2 alt
  refine (KT.out _ B8.out HSM.out).mono ?_
  rintro e w5 ⟨v5, rfl, ho5, hb5⟩
  have B12 : Hid (Below w.heap.size w w5) := Lib.hid (B8.out.trans (hb5.mono B8.out.size))
  have A13 := Lib.hid (A9.out.below hb5)
  have V14 := Lib.hid (V11.out.keeps (Keeps.of_all hb5))
  clear B8 A9 V11
  have Z5 : Hid (w4.heap.size ≤ w5.heap.size) := Lib.hid hb5.size
  have X15 := Lib.hid ho5
  clear ho5 hb5
  obtain ⟨fa5, fc5, ba5, bc5, e5⟩ := X15.out.read.form
  subst e5
  go_wp2_with fail
  have Xb16 := Lib.hid (Mcell.new (w := w5) (T := 27) (b := w5.heap.size) (fv := .slice fa5 m.facts.length fc5) (bv := .slice ba5 m.blocks.length bc5) (n := m.actual) rfl)
  have hb6 : Below w5.heap.size w5 (w5.alloc (.cells #[.slice fa5 m.facts.length fc5, .slice ba5 m.blocks.length bc5, .int .i64 m.actual] 27)) := by go_grown
  have hz6 : (w5.alloc (.cells #[.slice fa5 m.facts.length fc5, .slice ba5 m.blocks.length bc5, .int .i64 m.actual] 27)).heap.size = w5.heap.size + 1 := by simp
  generalize w5.alloc (.cells #[.slice fa5 m.facts.length fc5, .slice ba5 m.blocks.length bc5, .int .i64 m.actual] 27) = w6 at *
  have B17 : Hid (Below w.heap.size w w6) := Lib.hid (B12.out.trans (hb6.mono B12.out.size))
  have A18 := Lib.hid (A13.out.below hb6)
  have V19 := Lib.hid (V14.out.keeps (Keeps.of_all hb6))
  have X20 := Lib.hid (X15.out.keeps (Keeps.of_all hb6))
  clear B12 A13 V14 X15
  have Z6 := Lib.hid hz6
  clear hb6 hz6
  refine (KI.out _ _ _ _ X20.out.read (by have z1 := Z1.out; have z2 := Z2.out; have z3 := Z3.out; have z4 := Z4.out; have z5 := Z5.out; have z6 := Z6.out; omega)).mono ?_
  rintro e w7 ⟨v7, rfl, ho7, hb7⟩
  have B21 : Hid (Below w.heap.size w w7) := Lib.hid (B17.out.trans (hb7.mono B17.out.size))
  have A22 := Lib.hid (A18.out.below hb7)
  have V23 := Lib.hid (V19.out.keeps (Keeps.of_all hb7))
  have X24 := Lib.hid (X20.out.keeps (Keeps.of_all hb7))
  have Xb25 := Lib.hid (Xb16.out.below hb7)
  clear B17 A18 V19 X20 Xb16
  have Z7 : Hid (w6.heap.size ≤ w7.heap.size) := Lib.hid hb7.size
  have S26 := Lib.hid ho7
  clear ho7 hb7
  go_wp2_with fail
  refine (eqIntS_same _ _ _ _ _ _ _ _ S26.out.read V23.out.read).mono ?_
  rintro e w8 ⟨rfl, nq8, hd8⟩
  have hb8 : Below w7.heap.size w7 w8 := by rw [hd8]; exact below_drewN' (Below.refl _ _) nq8
  clear hd8
  have B27 : Hid (Below w.heap.size w w8) := Lib.hid (B21.out.trans (hb8.mono B21.out.size))
  have A28 := Lib.hid (A22.out.below hb8)
  have V29 := Lib.hid (V23.out.keeps (Keeps.of_all hb8))
  have X30 := Lib.hid (X24.out.keeps (Keeps.of_all hb8))
  have Xb31 := Lib.hid (Xb25.out.below hb8)
  have S32 := Lib.hid (S26.out.keeps (Keeps.of_all hb8))
  clear B21 A22 V23 X24 Xb25 S26
  have Z8 : Hid (w7.heap.size ≤ w8.heap.size) := Lib.hid hb8.size
  clear hb8
  go_wp2
  refine wp_region_held_drew (S := fun w' => Below w8.heap.size w8 w') (by kernel_rfl) (Below.refl _ _).drew (fun hHeld => ?_)
  refine wpAnyH_take (i := 0) (v := .agg #[.slice fa5 m.facts.length fc5, .slice ba5 m.blocks.length bc5, .int .i64 m.actual]) rfl (by kernel_rfl) (by kernel_rfl) (by kernel_rfl) (fun _ _ _ h => h) (Or.inl ⟨by rfl, by intro W hSw; obtain ⟨c0, c1, c2, _⟩ := Xb31.out.below hSw; go_simp⟩) hHeld ?_
  simp only [Act.put]
  refine wpAnyH_take (i := 1) (v := .agg #[fv0, bv0, .int .i64 m.actual]) rfl (by kernel_rfl) (by kernel_rfl) (by kernel_rfl) (fun _ _ _ h => h) (Or.inl ⟨by rfl, by intro W hSw; obtain ⟨c0, c1, c2, _⟩ := A28.out.below hSw; go_simp⟩) hHeld ?_
  simp only [Act.put]
  refine wpAnyH_ready (rs := [2]) (by kernel_rfl) (by simp) ?_
  refine AllReadyH.cons rfl (fun K hK => ?_) AllReadyH.nil
  go_simp
  refine (KT.out _ (B27.out.trans (hHeld.mono B27.out.size)) HSM.out).mono ?_
  rintro e w9 ⟨v9, rfl, ho9, hb9⟩
  have hB9 : Below w8.heap.size w8 w9 := hHeld.trans (hb9.mono hHeld.size)
  have M9 := Lib.hid ho9.read
  clear ho9 hb9 hHeld
  refine hK.out _ _ hB9 (fun hHeld => ?_)
  clear hK K
  refine wpAnyH_ready (rs := [3]) (by kernel_rfl) (by simp) ?_
  refine AllReadyH.cons rfl (fun K hK => ?_) AllReadyH.nil
  go_simp
  refine (KE.out _ _ _ _ _ _ _ (X30.out.read.keeps (Keeps.of_all hB9)) M9.out).mono ?_
  rintro e w10 ⟨rfl, hb10⟩
  have hB10 : Below w8.heap.size w8 w10 := hB9.trans (hb10.mono hB9.size)
  clear hB9 hb10 hHeld M9
  refine hK.out _ _ hB10 (fun hHeld => ?_)
  clear hK K
  refine wpAnyH_take (i := 4) (v := .bool false) rfl (by kernel_rfl) (by kernel_rfl) (by kernel_rfl) (fun _ _ _ h => h) (Or.inl ⟨by rfl, by intro w hSw; go_simp⟩) hHeld ?_
  simp only [Act.put]
  refine wpAnyH_done (by kernel_rfl) ?_ _
  clear hHeld
  have B33 : Hid (Below w.heap.size w w10) := Lib.hid (B27.out.trans (hB10.mono B27.out.size))
  have A34 := Lib.hid (A28.out.below hB10)
  have V35 := Lib.hid (V29.out.keeps (Keeps.of_all hB10))
  have X36 := Lib.hid (X30.out.keeps (Keeps.of_all hB10))
  have Xb37 := Lib.hid (Xb31.out.below hB10)
  have S38 := Lib.hid (S32.out.keeps (Keeps.of_all hB10))
  clear B27 A28 V29 X30 Xb31 S32
  have Z10 : Hid (w8.heap.size ≤ w10.heap.size) := Lib.hid hB10.size
  clear hB10
  obtain ⟨xbc0, xbc1, xbc2, _⟩ := Xb37.out
  have xblt := Xb37.out.lt
  go_wp2_with fail
  clear xbc0 xbc1 xbc2 xblt
  refine (markModel_own _ _ _ _ (1) _ HSM.out (by have z1 := Z1.out; have z2 := Z2.out; have z3 := Z3.out; have z4 := Z4.out; have z5 := Z5.out; have z6 := Z6.out; have z7 := Z7.out; have z8 := Z8.out; have z10 := Z10.out; omega) (by have z1 := Z1.out; have z2 := Z2.out; have z3 := Z3.out; have z4 := Z4.out; have z5 := Z5.out; have z6 := Z6.out; have z7 := Z7.out; have z8 := Z8.out; have z10 := Z10.out; omega) X36.out).mono ?_
  rintro e w11 ⟨rfl, hm11, ht11⟩
  clear hm11
  clear X36
  clear Xb37
  have B39 : Hid (Below w.heap.size w w11) := Lib.hid (B33.out.trans (ht11.below (by have z1 := Z1.out; have z2 := Z2.out; have z3 := Z3.out; have z4 := Z4.out; have z5 := Z5.out; have z6 := Z6.out; have z7 := Z7.out; have z8 := Z8.out; have z10 := Z10.out; omega) B33.out.size))
  have A40 := Lib.hid (A34.out.of_block (ht11.block _ A34.out.lt (by have z1 := Z1.out; have z2 := Z2.out; have z3 := Z3.out; have z4 := Z4.out; have z5 := Z5.out; have z6 := Z6.out; have z7 := Z7.out; have z8 := Z8.out; have z10 := Z10.out; omega)))
  have V41 := Lib.hid (V35.out.keeps (ht11.keeps (by have z1 := Z1.out; have z2 := Z2.out; have z3 := Z3.out; have z4 := Z4.out; have z5 := Z5.out; have z6 := Z6.out; have z7 := Z7.out; have z8 := Z8.out; have z10 := Z10.out; omega)))
  have S42 := Lib.hid (S38.out.keeps (ht11.keeps (by have z1 := Z1.out; have z2 := Z2.out; have z3 := Z3.out; have z4 := Z4.out; have z5 := Z5.out; have z6 := Z6.out; have z7 := Z7.out; have z8 := Z8.out; have z10 := Z10.out; omega)))
  clear B33 A34 V35 S38
  have Z11 : Hid (w10.heap.size ≤ w11.heap.size) := Lib.hid ht11.size
  clear ht11
  go_wp2_with fail
  refine (eqIntS_same _ _ _ _ _ _ _ _ S42.out.read V41.out.read).mono ?_
  rintro e w12 ⟨rfl, nq12, hd12⟩
  have hb12 : Below w11.heap.size w11 w12 := by rw [hd12]; exact below_drewN' (Below.refl _ _) nq12
  clear hd12
  have B43 : Hid (Below w.heap.size w w12) := Lib.hid (B39.out.trans (hb12.mono B39.out.size))
  have A44 := Lib.hid (A40.out.below hb12)
  have V45 := Lib.hid (V41.out.keeps (Keeps.of_all hb12))
  have S46 := Lib.hid (S42.out.keeps (Keeps.of_all hb12))
  clear B39 A40 V41 S42
  have Z12 : Hid (w11.heap.size ≤ w12.heap.size) := Lib.hid hb12.size
  clear hb12
  go_wp2_with fail
  refine (markIntS_row _ _ _ _ 1 _ (by have := HRL.out; omega) (by omega) S46.out).mono ?_
  rintro e w13 ⟨rfl, hm13, hg13⟩
  have ht13 : Touch w6.heap.size w7.heap.size w12 w13 := Touch.of_grown hg13 (fun k hk => ⟨(S46.out.1.lt k hk).1, S46.out.2 k hk⟩)
  clear hg13
  have H47 := Lib.hid hm13
  clear hm13
  clear S46
  have B48 : Hid (Below w.heap.size w w13) := Lib.hid (B43.out.trans (ht13.below (by have z1 := Z1.out; have z2 := Z2.out; have z3 := Z3.out; have z4 := Z4.out; have z5 := Z5.out; have z6 := Z6.out; have z7 := Z7.out; have z8 := Z8.out; have z10 := Z10.out; have z11 := Z11.out; have z12 := Z12.out; omega) B43.out.size))
  have A49 := Lib.hid (A44.out.of_block (ht13.block _ A44.out.lt (by have z1 := Z1.out; have z2 := Z2.out; have z3 := Z3.out; have z4 := Z4.out; have z5 := Z5.out; have z6 := Z6.out; have z7 := Z7.out; have z8 := Z8.out; have z10 := Z10.out; have z11 := Z11.out; have z12 := Z12.out; omega)))
  have V50 := Lib.hid (V45.out.keeps (ht13.keeps (by have z1 := Z1.out; have z2 := Z2.out; have z3 := Z3.out; have z4 := Z4.out; have z5 := Z5.out; have z6 := Z6.out; have z7 := Z7.out; have z8 := Z8.out; have z10 := Z10.out; have z11 := Z11.out; have z12 := Z12.out; omega)))
  clear B43 A44 V45
  have Z13 : Hid (w12.heap.size ≤ w13.heap.size) := Lib.hid ht13.size
  clear ht13
  go_wp2_with fail
  refine (heldIntS_any _ _ _ rl.length 1 _ (by have := HRL.out; omega) (by omega) H47.out.read).mono ?_
  rintro e wq ⟨rfl, rfl⟩
  obtain ⟨ac0, ac1, ac2, _⟩ := A49.out
  have alt := A49.out.lt
  go_wp2_with fail
  refine (KT.out _ B48.out HSM.out).mono ?_
  rintro e w14 ⟨v14, rfl, ho14, hb14⟩
  clear ac0 ac1 ac2 alt
  have B51 : Hid (Below w.heap.size w w14) := Lib.hid (B48.out.trans (hb14.mono B48.out.size))
  have A52 := Lib.hid (A49.out.below hb14)
  have V53 := Lib.hid (V50.out.keeps (Keeps.of_all hb14))
  have H54 := Lib.hid (H47.out.keeps (Keeps.of_all hb14))
  clear B48 A49 V50 H47
  have Z14 : Hid (w13.heap.size ≤ w14.heap.size) := Lib.hid hb14.size
  have P55 := Lib.hid ho14
  clear ho14 hb14
  go_wp2_with fail
  refine (KI.out _ _ _ _ P55.out.read (by have z1 := Z1.out; have z2 := Z2.out; have z3 := Z3.out; have z4 := Z4.out; have z5 := Z5.out; have z6 := Z6.out; have z7 := Z7.out; have z8 := Z8.out; have z10 := Z10.out; have z11 := Z11.out; have z12 := Z12.out; have z13 := Z13.out; have z14 := Z14.out; omega)).mono ?_
  rintro e w15 ⟨v15, rfl, ho15, hb15⟩
  have B56 : Hid (Below w.heap.size w w15) := Lib.hid (B51.out.trans (hb15.mono B51.out.size))
  have A57 := Lib.hid (A52.out.below hb15)
  have V58 := Lib.hid (V53.out.keeps (Keeps.of_all hb15))
  have H59 := Lib.hid (H54.out.keeps (Keeps.of_all hb15))
  have P60 := Lib.hid (P55.out.keeps (Keeps.of_all hb15))
  clear B51 A52 V53 H54 P55
  have Z15 : Hid (w14.heap.size ≤ w15.heap.size) := Lib.hid hb15.size
  have O61 := Lib.hid ho15
  clear ho15 hb15
  clear P60
  go_wp2_with fail
  refine (eqIntS_same _ _ _ _ _ _ _ _ O61.out.read V58.out.read).mono ?_
  rintro e w16 ⟨rfl, nq16, hd16⟩
  have hb16 : Below w15.heap.size w15 w16 := by rw [hd16]; exact below_drewN' (Below.refl _ _) nq16
  clear hd16
  have B62 : Hid (Below w.heap.size w w16) := Lib.hid (B56.out.trans (hb16.mono B56.out.size))
  have A63 := Lib.hid (A57.out.below hb16)
  have V64 := Lib.hid (V58.out.keeps (Keeps.of_all hb16))
  have H65 := Lib.hid (H59.out.keeps (Keeps.of_all hb16))
  have O66 := Lib.hid (O61.out.keeps (Keeps.of_all hb16))
  clear B56 A57 V58 H59 O61
  have Z16 : Hid (w15.heap.size ≤ w16.heap.size) := Lib.hid hb16.size
  clear hb16
  go_wp2_with fail
  refine (heldIntS_any _ _ _ rl.length 1 _ (by have := HRL.out; omega) (by omega) H65.out.read).mono ?_
  rintro e wq ⟨rfl, rfl⟩
  go_wp2
  go_ret
  exact ⟨rfl, B62.out⟩
end Go.Proofs.Ythnpcbnpojhpoaa
