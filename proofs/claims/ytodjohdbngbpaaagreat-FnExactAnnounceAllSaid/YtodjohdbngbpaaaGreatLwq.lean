/-
  The walk of the law FnExactAnnounceAll: it returns true and writes nothing that was there. No condition.
-/
import Derived.Test.YtodjohdbngbpaaaGreatAsl
import Derived.Test.YtodjohdbngbpaaaGreatOss
import Derived.Test.YtodjohdbngbpaaaGreatZTerm
namespace Go.Proofs.YtodjohdbngbpaaaGreat
open Go.RowKit Go.WideShapes
open Go Go.Deep

set_option maxRecDepth 100000 in
set_option maxHeartbeats 16000000 in
theorem walk_FnExactAnnounceAll (v00 : Value) (m : Md) (v10 : Value) (ls : List (List Nd)) (w : World) (h0 : Mv 0 w.heap.size w v00 m) (h1 : Nvv 0 w.heap.size w v10 ls) :
    Calls Tryz.prog 7 #[v00, v10] w fun e w' => e = .returned (.bool true) ∧ Below w.heap.size w w' := by
  obtain ⟨fv0, bv0, rfl, hf0, hbb0⟩ := id h0
  have KZ := Lib.hid (fun W (h : Below w.heap.size w W) => szModel_any 0 w.heap.size _ m W (h0.keeps (Keeps.of_all h)))
  have KT := Lib.hid (fun W (h : Below w.heap.size w W) => toModel_any 0 w.heap.size _ m W (h0.keeps (Keeps.of_all h)) h.size)
  have KE := Lib.hid (fun lo hi lo' hi' u v W h h' => eqModel_same lo hi lo' hi' u v m W h h')
  clear h0 hf0 hbb0
  have KY1 := Lib.hid (fun left W (h : Below w.heap.size w W) hz0 hz1 => szNodeSS_any 0 w.heap.size v10 ls left W (h1.later h) hz0 hz1)
  unfold budget at KY1
  have KN1 := Lib.hid (fun hn W (h : Below w.heap.size w W) => toNodeSS_any 0 w.heap.size v10 ls W (h1.later h) (Nat.le_trans (Nat.le_add_right _ _) hn) (Nat.le_trans (Nat.le_add_left _ _) hn))
  clear h1
  by_cases hbig : 1048576 < msize m + m.blocks.length
  · rw [budget_big hbig] at KZ
    clear KT hbig KE KY1 KN1
    go_enter Tryz.func7, Tryz.ntmps7
    go_wp2_with fail
    refine (KZ.out _ (by go_grown)).mono ?_
    rintro e w1 ⟨rfl, hb1⟩
    have B1 : Hid (Below w.heap.size w w1) := Lib.hid (Below.trans (by go_grown) (hb1.mono (by simp)))
    clear hb1
    go_wp2
    go_ret
    exact ⟨rfl, B1.out⟩
  have hsm : msize m + m.blocks.length ≤ 1048576 := by omega
  rw [budget_small hsm] at KZ
  have hbn : (0 : Int) ≤ 1048576 - ((msize m + m.blocks.length : Nat) : Int) := by omega
  have HSM := Lib.hid hsm
  have hbl : 1048576 - ((msize m + m.blocks.length : Nat) : Int) ≤ 1048576 := by omega
  have HLF := Lib.hid (show ∀ n : Nat, ¬ ((1048576 : Int) - ((msize m + m.blocks.length : Nat) : Int) - (n : Int) < 0) → msize m + n ≤ 1048576 from fun n h => by omega)
  generalize (1048576 : Int) - ((msize m + m.blocks.length : Nat) : Int) = left at *
  clear hbig hsm
  have KY1 := Lib.hid (fun W h => KY1.out left W h hbn hbl)
  by_cases hs1 : left - ((ls.length + totN ls : Nat) : Int) < 0
  · simp only [if_pos hs1] at KY1
    clear KT KE KN1
    go_enter Tryz.func7, Tryz.ntmps7
    go_wp2_with fail
    refine (KZ.out _ (by go_grown)).mono ?_
    rintro e w1 ⟨rfl, hb1⟩
    have B1 : Hid (Below w.heap.size w w1) := Lib.hid (Below.trans (by go_grown) (hb1.mono (by simp)))
    clear hb1
    go_wp2_with fail
    refine (KY1.out _ B1.out).mono ?_
    rintro e wq ⟨rfl, rfl⟩
    go_wp2
    go_ret
    exact ⟨rfl, B1.out⟩
  have HBG := Lib.hid (HLF.out _ hs1)
  simp only [if_neg hs1] at KY1
  have hn1 : ls.length + totN ls ≤ 1048576 := by omega
  have KN1 := Lib.hid (KN1.out hn1)
  have HN1 := Lib.hid hn1
  obtain ⟨left1, hl1⟩ : ∃ l, l = left - ((ls.length + totN ls : Nat) : Int) := ⟨_, rfl⟩
  rw [← hl1] at KY1
  have hbn : 0 ≤ left1 := by omega
  have hbl : left1 ≤ 1048576 := by omega
  clear hs1 hn1 hl1
  have KS := Lib.hid (fun lo hi v lo2 hi2 v2 W h (hh : hi ≤ W.heap.size) (h2 : Nvv lo2 hi2 W v2 ls) => specAnnAll_any lo hi lo2 hi2 v v2 m ls W h hh h2)
  have KI := Lib.hid (fun lo hi v lo2 hi2 v2 W h (hh : hi ≤ W.heap.size) (h2 : Nvv lo2 hi2 W v2 ls) => implAnnAll_any lo hi lo2 hi2 v v2 m ls W h hh h2)
  have HMR := Lib.hid (annAll_size m ls)
  unfold MdAns2 at KS KI
  generalize (annAllR m ls).getD ⟨[], [], 0⟩ = mr at *
  generalize (annAllR m ls).isSome = ok at *
  go_enter Tryz.func7, Tryz.ntmps7
  have B0 : Hid (Below w.heap.size w w) := Lib.hid (Below.refl _ _)
  go_wp2_with fail
  have A1 := Lib.hid (Mcell.new (w := w) (T := 50) (b := w.heap.size) (fv := fv0) (bv := bv0) (n := m.actual) rfl)
  have hb1 : Below w.heap.size w (w.alloc (.cells #[fv0, bv0, .int .i64 m.actual] 50)) := by go_grown
  have hz1 : (w.alloc (.cells #[fv0, bv0, .int .i64 m.actual] 50)).heap.size = w.heap.size + 1 := by simp
  generalize w.alloc (.cells #[fv0, bv0, .int .i64 m.actual] 50) = w1 at *
  have B2 : Hid (Below w.heap.size w w1) := Lib.hid (B0.out.trans (hb1.mono B0.out.size))
  clear B0
  have Z1 := Lib.hid hz1
  clear hb1 hz1
  refine (KZ.out _ B2.out).mono ?_
  rintro e w2 ⟨rfl, hb2⟩
  have B3 : Hid (Below w.heap.size w w2) := Lib.hid (B2.out.trans (hb2.mono B2.out.size))
  have A4 := Lib.hid (A1.out.below hb2)
  clear B2 A1
  have Z2 : Hid (w1.heap.size ≤ w2.heap.size) := Lib.hid hb2.size
  clear hb2
  go_wp2_with fail
  refine (KY1.out _ B3.out).mono ?_
  rintro e wq ⟨rfl, rfl⟩
  obtain ⟨ac0, ac1, ac2, _⟩ := A4.out
  have alt := A4.out.lt
  go_wp2_with fail
  refine (KT.out _ B3.out HSM.out).mono ?_
  rintro e w3 ⟨v3, rfl, ho3, hb3⟩
  clear ac0 ac1 ac2 alt
  have B5 : Hid (Below w.heap.size w w3) := Lib.hid (B3.out.trans (hb3.mono B3.out.size))
  have A6 := Lib.hid (A4.out.below hb3)
  clear B3 A4
  have Z3 : Hid (w2.heap.size ≤ w3.heap.size) := Lib.hid hb3.size
  have P7 := Lib.hid ho3
  clear ho3 hb3
  go_wp2_with fail
  refine (KN1.out _ B5.out).mono ?_
  rintro e w4 ⟨v4, vs4, rfl, ho4, hb4⟩
  have B8 : Hid (Below w.heap.size w w4) := Lib.hid (B5.out.trans (hb4.mono B5.out.size))
  have A9 := Lib.hid (A6.out.below hb4)
  have P10 := Lib.hid (P7.out.keeps (Keeps.of_all hb4))
  clear B5 A6 P7
  have Z4 : Hid (w3.heap.size ≤ w4.heap.size) := Lib.hid hb4.size
  have Q11 := Lib.hid ho4
  clear ho4 hb4
  go_wp2_with fail
  refine (KS.out _ _ _ _ _ _ _ P10.out.read (by have z1 := Z1.out; have z2 := Z2.out; have z3 := Z3.out; have z4 := Z4.out; omega) Q11.out.read).mono ?_
  rintro e w5 ⟨v5, rfl, ho5, hb5⟩
  have B12 : Hid (Below w.heap.size w w5) := Lib.hid (B8.out.trans (hb5.mono B8.out.size))
  have A13 := Lib.hid (A9.out.below hb5)
  have P14 := Lib.hid (P10.out.keeps (Keeps.of_all hb5))
  have Q15 := Lib.hid (Q11.out.keeps (Keeps.of_all hb5))
  clear B8 A9 P10 Q11
  have Z5 : Hid (w4.heap.size ≤ w5.heap.size) := Lib.hid hb5.size
  have V16 := Lib.hid ho5
  clear ho5 hb5
  clear P14
  clear Q15
  obtain ⟨fa5, fc5, ba5, bc5, e5⟩ := V16.out.read.form
  subst e5
  obtain ⟨ac0, ac1, ac2, _⟩ := A13.out
  have alt := A13.out.lt
  go_wp2_with fail
  clear ac0 ac1 ac2 alt
  have W17 := Lib.hid (Mcell.new (w := w5) (T := 26) (b := w5.heap.size) (fv := .slice fa5 mr.facts.length fc5) (bv := .slice ba5 mr.blocks.length bc5) (n := mr.actual) rfl)
  have hb6 : Below w5.heap.size w5 (w5.alloc (.cells #[.slice fa5 mr.facts.length fc5, .slice ba5 mr.blocks.length bc5, .int .i64 mr.actual] 26)) := by go_grown
  have hz6 : (w5.alloc (.cells #[.slice fa5 mr.facts.length fc5, .slice ba5 mr.blocks.length bc5, .int .i64 mr.actual] 26)).heap.size = w5.heap.size + 1 := by simp
  generalize w5.alloc (.cells #[.slice fa5 mr.facts.length fc5, .slice ba5 mr.blocks.length bc5, .int .i64 mr.actual] 26) = w6 at *
  have B18 : Hid (Below w.heap.size w w6) := Lib.hid (B12.out.trans (hb6.mono B12.out.size))
  have A19 := Lib.hid (A13.out.below hb6)
  have V20 := Lib.hid (V16.out.keeps (Keeps.of_all hb6))
  clear B12 A13 V16
  have Z6 := Lib.hid hz6
  clear hb6 hz6
  refine (KT.out _ B18.out HSM.out).mono ?_
  rintro e w7 ⟨v7, rfl, ho7, hb7⟩
  have B21 : Hid (Below w.heap.size w w7) := Lib.hid (B18.out.trans (hb7.mono B18.out.size))
  have A22 := Lib.hid (A19.out.below hb7)
  have V23 := Lib.hid (V20.out.keeps (Keeps.of_all hb7))
  have W24 := Lib.hid (W17.out.below hb7)
  clear B18 A19 V20 W17
  have Z7 : Hid (w6.heap.size ≤ w7.heap.size) := Lib.hid hb7.size
  have X25 := Lib.hid ho7
  clear ho7 hb7
  obtain ⟨fa7, fc7, ba7, bc7, e7⟩ := X25.out.read.form
  subst e7
  go_wp2_with fail
  have Xb26 := Lib.hid (Mcell.new (w := w7) (T := 26) (b := w7.heap.size) (fv := .slice fa7 m.facts.length fc7) (bv := .slice ba7 m.blocks.length bc7) (n := m.actual) rfl)
  have hb8 : Below w7.heap.size w7 (w7.alloc (.cells #[.slice fa7 m.facts.length fc7, .slice ba7 m.blocks.length bc7, .int .i64 m.actual] 26)) := by go_grown
  have hz8 : (w7.alloc (.cells #[.slice fa7 m.facts.length fc7, .slice ba7 m.blocks.length bc7, .int .i64 m.actual] 26)).heap.size = w7.heap.size + 1 := by simp
  generalize w7.alloc (.cells #[.slice fa7 m.facts.length fc7, .slice ba7 m.blocks.length bc7, .int .i64 m.actual] 26) = w8 at *
  have B27 : Hid (Below w.heap.size w w8) := Lib.hid (B21.out.trans (hb8.mono B21.out.size))
  have A28 := Lib.hid (A22.out.below hb8)
  have V29 := Lib.hid (V23.out.keeps (Keeps.of_all hb8))
  have W30 := Lib.hid (W24.out.below hb8)
  have X31 := Lib.hid (X25.out.keeps (Keeps.of_all hb8))
  clear B21 A22 V23 W24 X25
  have Z8 := Lib.hid hz8
  clear hb8 hz8
  refine (KN1.out _ B27.out).mono ?_
  rintro e w9 ⟨v9, vs9, rfl, ho9, hb9⟩
  have B32 : Hid (Below w.heap.size w w9) := Lib.hid (B27.out.trans (hb9.mono B27.out.size))
  have A33 := Lib.hid (A28.out.below hb9)
  have V34 := Lib.hid (V29.out.keeps (Keeps.of_all hb9))
  have W35 := Lib.hid (W30.out.below hb9)
  have X36 := Lib.hid (X31.out.keeps (Keeps.of_all hb9))
  have Xb37 := Lib.hid (Xb26.out.below hb9)
  clear B27 A28 V29 W30 X31 Xb26
  have Z9 : Hid (w8.heap.size ≤ w9.heap.size) := Lib.hid hb9.size
  have Y38 := Lib.hid ho9
  clear ho9 hb9
  obtain ⟨xbc0, xbc1, xbc2, _⟩ := Xb37.out
  have xblt := Xb37.out.lt
  go_wp2_with fail
  clear xbc0 xbc1 xbc2 xblt
  refine (KI.out _ _ _ _ _ _ _ X36.out.read (by have z1 := Z1.out; have z2 := Z2.out; have z3 := Z3.out; have z4 := Z4.out; have z5 := Z5.out; have z6 := Z6.out; have z7 := Z7.out; have z8 := Z8.out; have z9 := Z9.out; omega) Y38.out.read).mono ?_
  rintro e w10 ⟨v10, rfl, ho10, hb10⟩
  have B39 : Hid (Below w.heap.size w w10) := Lib.hid (B32.out.trans (hb10.mono B32.out.size))
  have A40 := Lib.hid (A33.out.below hb10)
  have V41 := Lib.hid (V34.out.keeps (Keeps.of_all hb10))
  have W42 := Lib.hid (W35.out.below hb10)
  have X43 := Lib.hid (X36.out.keeps (Keeps.of_all hb10))
  have Xb44 := Lib.hid (Xb37.out.below hb10)
  have Y45 := Lib.hid (Y38.out.keeps (Keeps.of_all hb10))
  clear B32 A33 V34 W35 X36 Xb37 Y38
  have Z10 : Hid (w9.heap.size ≤ w10.heap.size) := Lib.hid hb10.size
  have S46 := Lib.hid ho10
  clear ho10 hb10
  obtain ⟨fa10, fc10, ba10, bc10, e10⟩ := S46.out.read.form
  subst e10
  obtain ⟨wc0, wc1, wc2, _⟩ := W42.out
  have wlt := W42.out.lt
  go_wp2_with fail
  clear wc0 wc1 wc2 wlt
  have Sb47 := Lib.hid (Mcell.new (w := w10) (T := 26) (b := w10.heap.size) (fv := .slice fa10 mr.facts.length fc10) (bv := .slice ba10 mr.blocks.length bc10) (n := mr.actual) rfl)
  have hb11 : Below w10.heap.size w10 (w10.alloc (.cells #[.slice fa10 mr.facts.length fc10, .slice ba10 mr.blocks.length bc10, .int .i64 mr.actual] 26)) := by go_grown
  have hz11 : (w10.alloc (.cells #[.slice fa10 mr.facts.length fc10, .slice ba10 mr.blocks.length bc10, .int .i64 mr.actual] 26)).heap.size = w10.heap.size + 1 := by simp
  generalize w10.alloc (.cells #[.slice fa10 mr.facts.length fc10, .slice ba10 mr.blocks.length bc10, .int .i64 mr.actual] 26) = w11 at *
  have B48 : Hid (Below w.heap.size w w11) := Lib.hid (B39.out.trans (hb11.mono B39.out.size))
  have A49 := Lib.hid (A40.out.below hb11)
  have V50 := Lib.hid (V41.out.keeps (Keeps.of_all hb11))
  have W51 := Lib.hid (W42.out.below hb11)
  have X52 := Lib.hid (X43.out.keeps (Keeps.of_all hb11))
  have Xb53 := Lib.hid (Xb44.out.below hb11)
  have Y54 := Lib.hid (Y45.out.keeps (Keeps.of_all hb11))
  have S55 := Lib.hid (S46.out.keeps (Keeps.of_all hb11))
  clear B39 A40 V41 W42 X43 Xb44 Y45 S46
  have Z11 := Lib.hid hz11
  clear hb11 hz11
  refine (eqModel_same _ _ _ _ _ _ mr _ S55.out.read V50.out.read).mono ?_
  rintro e w12 ⟨rfl, hb12⟩
  have B56 : Hid (Below w.heap.size w w12) := Lib.hid (B48.out.trans (hb12.mono B48.out.size))
  have A57 := Lib.hid (A49.out.below hb12)
  have V58 := Lib.hid (V50.out.keeps (Keeps.of_all hb12))
  have W59 := Lib.hid (W51.out.below hb12)
  have X60 := Lib.hid (X52.out.keeps (Keeps.of_all hb12))
  have Xb61 := Lib.hid (Xb53.out.below hb12)
  have Y62 := Lib.hid (Y54.out.keeps (Keeps.of_all hb12))
  have S63 := Lib.hid (S55.out.keeps (Keeps.of_all hb12))
  have Sb64 := Lib.hid (Sb47.out.below hb12)
  clear B48 A49 V50 W51 X52 Xb53 Y54 S55 Sb47
  have Z12 : Hid (w11.heap.size ≤ w12.heap.size) := Lib.hid hb12.size
  clear hb12
  go_wp2
  refine wp_region_held_drew (S := fun w' => Below w12.heap.size w12 w') (by kernel_rfl) (Below.refl _ _).drew (fun hHeld => ?_)
  refine wpAnyH_take (i := 0) (v := .agg #[.slice fa7 m.facts.length fc7, .slice ba7 m.blocks.length bc7, .int .i64 m.actual]) rfl (by kernel_rfl) (by kernel_rfl) (by kernel_rfl) (fun _ _ _ h => h) (Or.inl ⟨by rfl, by intro W hSw; obtain ⟨c0, c1, c2, _⟩ := Xb61.out.below hSw; go_simp⟩) hHeld ?_
  simp only [Act.put]
  refine wpAnyH_take (i := 1) (v := .agg #[fv0, bv0, .int .i64 m.actual]) rfl (by kernel_rfl) (by kernel_rfl) (by kernel_rfl) (fun _ _ _ h => h) (Or.inl ⟨by rfl, by intro W hSw; obtain ⟨c0, c1, c2, _⟩ := A57.out.below hSw; go_simp⟩) hHeld ?_
  simp only [Act.put]
  refine wpAnyH_ready (rs := [2]) (by kernel_rfl) (by simp) ?_
  refine AllReadyH.cons rfl (fun K hK => ?_) AllReadyH.nil
  go_simp
  refine (KT.out _ (B56.out.trans (hHeld.mono B56.out.size)) HSM.out).mono ?_
  rintro e w13 ⟨v13, rfl, ho13, hb13⟩
  have hB13 : Below w12.heap.size w12 w13 := hHeld.trans (hb13.mono hHeld.size)
  have M13 := Lib.hid ho13.read
  clear ho13 hb13 hHeld
  refine hK.out _ _ hB13 (fun hHeld => ?_)
  clear hK K
  refine wpAnyH_ready (rs := [3]) (by kernel_rfl) (by simp) ?_
  refine AllReadyH.cons rfl (fun K hK => ?_) AllReadyH.nil
  go_simp
  refine (KE.out _ _ _ _ _ _ _ (X60.out.read.keeps (Keeps.of_all hB13)) M13.out).mono ?_
  rintro e w14 ⟨rfl, hb14⟩
  have hB14 : Below w12.heap.size w12 w14 := hB13.trans (hb14.mono hB13.size)
  clear hB13 hb14 hHeld M13
  refine hK.out _ _ hB14 (fun hHeld => ?_)
  clear hK K
  refine wpAnyH_take (i := 4) (v := .bool false) rfl (by kernel_rfl) (by kernel_rfl) (by kernel_rfl) (fun _ _ _ h => h) (Or.inl ⟨by rfl, by intro w hSw; go_simp⟩) hHeld ?_
  simp only [Act.put]
  refine wpAnyH_done (by kernel_rfl) ?_ _
  clear hHeld
  have B65 : Hid (Below w.heap.size w w14) := Lib.hid (B56.out.trans (hB14.mono B56.out.size))
  have A66 := Lib.hid (A57.out.below hB14)
  have V67 := Lib.hid (V58.out.keeps (Keeps.of_all hB14))
  have W68 := Lib.hid (W59.out.below hB14)
  have X69 := Lib.hid (X60.out.keeps (Keeps.of_all hB14))
  have Xb70 := Lib.hid (Xb61.out.below hB14)
  have Y71 := Lib.hid (Y62.out.keeps (Keeps.of_all hB14))
  have S72 := Lib.hid (S63.out.keeps (Keeps.of_all hB14))
  have Sb73 := Lib.hid (Sb64.out.below hB14)
  clear B56 A57 V58 W59 X60 Xb61 Y62 S63 Sb64
  have Z14 : Hid (w12.heap.size ≤ w14.heap.size) := Lib.hid hB14.size
  clear hB14
  go_wp2_with fail
  refine (KN1.out _ B65.out).mono ?_
  rintro e w15 ⟨v15, vs15, rfl, ho15, hb15⟩
  have B74 : Hid (Below w.heap.size w w15) := Lib.hid (B65.out.trans (hb15.mono B65.out.size))
  have A75 := Lib.hid (A66.out.below hb15)
  have V76 := Lib.hid (V67.out.keeps (Keeps.of_all hb15))
  have W77 := Lib.hid (W68.out.below hb15)
  have X78 := Lib.hid (X69.out.keeps (Keeps.of_all hb15))
  have Xb79 := Lib.hid (Xb70.out.below hb15)
  have Y80 := Lib.hid (Y71.out.keeps (Keeps.of_all hb15))
  have S81 := Lib.hid (S72.out.keeps (Keeps.of_all hb15))
  have Sb82 := Lib.hid (Sb73.out.below hb15)
  clear B65 A66 V67 W68 X69 Xb70 Y71 S72 Sb73
  have Z15 : Hid (w14.heap.size ≤ w15.heap.size) := Lib.hid hb15.size
  have T83 := Lib.hid ho15
  clear ho15 hb15
  go_wp2_with fail
  refine (eqNodeSS_same _ _ _ _ _ _ ls _ Y80.out.read T83.out.read).mono ?_
  rintro e w16 ⟨rfl, hb16⟩
  have B84 : Hid (Below w.heap.size w w16) := Lib.hid (B74.out.trans (hb16.mono B74.out.size))
  have A85 := Lib.hid (A75.out.below hb16)
  have V86 := Lib.hid (V76.out.keeps (Keeps.of_all hb16))
  have W87 := Lib.hid (W77.out.below hb16)
  have X88 := Lib.hid (X78.out.keeps (Keeps.of_all hb16))
  have Xb89 := Lib.hid (Xb79.out.below hb16)
  have Y90 := Lib.hid (Y80.out.keeps (Keeps.of_all hb16))
  have S91 := Lib.hid (S81.out.keeps (Keeps.of_all hb16))
  have Sb92 := Lib.hid (Sb82.out.below hb16)
  have T93 := Lib.hid (T83.out.keeps (Keeps.of_all hb16))
  clear B74 A75 V76 W77 X78 Xb79 Y80 S81 Sb82 T83
  have Z16 : Hid (w15.heap.size ≤ w16.heap.size) := Lib.hid hb16.size
  clear hb16
  clear T93
  obtain ⟨xbc0, xbc1, xbc2, _⟩ := Xb89.out
  have xblt := Xb89.out.lt
  go_wp2_with fail
  clear xbc0 xbc1 xbc2 xblt
  refine (markModel_own _ _ _ _ (1) _ HSM.out (by have z1 := Z1.out; have z2 := Z2.out; have z3 := Z3.out; have z4 := Z4.out; have z5 := Z5.out; have z6 := Z6.out; have z7 := Z7.out; have z8 := Z8.out; have z9 := Z9.out; have z10 := Z10.out; have z11 := Z11.out; have z12 := Z12.out; have z14 := Z14.out; have z15 := Z15.out; have z16 := Z16.out; omega) (by have z1 := Z1.out; have z2 := Z2.out; have z3 := Z3.out; have z4 := Z4.out; have z5 := Z5.out; have z6 := Z6.out; have z7 := Z7.out; have z8 := Z8.out; have z9 := Z9.out; have z10 := Z10.out; have z11 := Z11.out; have z12 := Z12.out; have z14 := Z14.out; have z15 := Z15.out; have z16 := Z16.out; omega) X88.out).mono ?_
  rintro e w17 ⟨rfl, hm17, ht17⟩
  clear hm17
  clear X88
  clear Xb89
  have B94 : Hid (Below w.heap.size w w17) := Lib.hid (B84.out.trans (ht17.below (by have z1 := Z1.out; have z2 := Z2.out; have z3 := Z3.out; have z4 := Z4.out; have z5 := Z5.out; have z6 := Z6.out; have z7 := Z7.out; have z8 := Z8.out; have z9 := Z9.out; have z10 := Z10.out; have z11 := Z11.out; have z12 := Z12.out; have z14 := Z14.out; have z15 := Z15.out; have z16 := Z16.out; omega) B84.out.size))
  have A95 := Lib.hid (A85.out.of_block (ht17.block _ A85.out.lt (by have z1 := Z1.out; have z2 := Z2.out; have z3 := Z3.out; have z4 := Z4.out; have z5 := Z5.out; have z6 := Z6.out; have z7 := Z7.out; have z8 := Z8.out; have z9 := Z9.out; have z10 := Z10.out; have z11 := Z11.out; have z12 := Z12.out; have z14 := Z14.out; have z15 := Z15.out; have z16 := Z16.out; omega)))
  have V96 := Lib.hid (V86.out.keeps (ht17.keeps (by have z1 := Z1.out; have z2 := Z2.out; have z3 := Z3.out; have z4 := Z4.out; have z5 := Z5.out; have z6 := Z6.out; have z7 := Z7.out; have z8 := Z8.out; have z9 := Z9.out; have z10 := Z10.out; have z11 := Z11.out; have z12 := Z12.out; have z14 := Z14.out; have z15 := Z15.out; have z16 := Z16.out; omega)))
  have W97 := Lib.hid (W87.out.of_block (ht17.block _ W87.out.lt (by have z1 := Z1.out; have z2 := Z2.out; have z3 := Z3.out; have z4 := Z4.out; have z5 := Z5.out; have z6 := Z6.out; have z7 := Z7.out; have z8 := Z8.out; have z9 := Z9.out; have z10 := Z10.out; have z11 := Z11.out; have z12 := Z12.out; have z14 := Z14.out; have z15 := Z15.out; have z16 := Z16.out; omega)))
  have Y98 := Lib.hid (Y90.out.keeps (ht17.keeps (by have z1 := Z1.out; have z2 := Z2.out; have z3 := Z3.out; have z4 := Z4.out; have z5 := Z5.out; have z6 := Z6.out; have z7 := Z7.out; have z8 := Z8.out; have z9 := Z9.out; have z10 := Z10.out; have z11 := Z11.out; have z12 := Z12.out; have z14 := Z14.out; have z15 := Z15.out; have z16 := Z16.out; omega)))
  have S99 := Lib.hid (S91.out.keeps (ht17.keeps (by have z1 := Z1.out; have z2 := Z2.out; have z3 := Z3.out; have z4 := Z4.out; have z5 := Z5.out; have z6 := Z6.out; have z7 := Z7.out; have z8 := Z8.out; have z9 := Z9.out; have z10 := Z10.out; have z11 := Z11.out; have z12 := Z12.out; have z14 := Z14.out; have z15 := Z15.out; have z16 := Z16.out; omega)))
  have Sb100 := Lib.hid (Sb92.out.of_block (ht17.block _ Sb92.out.lt (by have z1 := Z1.out; have z2 := Z2.out; have z3 := Z3.out; have z4 := Z4.out; have z5 := Z5.out; have z6 := Z6.out; have z7 := Z7.out; have z8 := Z8.out; have z9 := Z9.out; have z10 := Z10.out; have z11 := Z11.out; have z12 := Z12.out; have z14 := Z14.out; have z15 := Z15.out; have z16 := Z16.out; omega)))
  clear B84 A85 V86 W87 Y90 S91 Sb92
  have Z17 : Hid (w16.heap.size ≤ w17.heap.size) := Lib.hid ht17.size
  clear ht17
  go_wp2_with fail
  refine (markNodeSS_own _ _ _ _ ls ((1 + msize m)) _ (by have := HN1.out; omega) (by have := HN1.out; omega) (by omega) (by have hsm := HSM.out; have := HBG.out; omega) Y98.out).mono ?_
  rintro e w18 ⟨rfl, hm18, ht18, -⟩
  clear hm18
  clear Y98
  have B101 : Hid (Below w.heap.size w w18) := Lib.hid (B94.out.trans (ht18.below (by have z1 := Z1.out; have z2 := Z2.out; have z3 := Z3.out; have z4 := Z4.out; have z5 := Z5.out; have z6 := Z6.out; have z7 := Z7.out; have z8 := Z8.out; have z9 := Z9.out; have z10 := Z10.out; have z11 := Z11.out; have z12 := Z12.out; have z14 := Z14.out; have z15 := Z15.out; have z16 := Z16.out; have z17 := Z17.out; omega) B94.out.size))
  have A102 := Lib.hid (A95.out.of_block (ht18.block _ A95.out.lt (by have z1 := Z1.out; have z2 := Z2.out; have z3 := Z3.out; have z4 := Z4.out; have z5 := Z5.out; have z6 := Z6.out; have z7 := Z7.out; have z8 := Z8.out; have z9 := Z9.out; have z10 := Z10.out; have z11 := Z11.out; have z12 := Z12.out; have z14 := Z14.out; have z15 := Z15.out; have z16 := Z16.out; have z17 := Z17.out; omega)))
  have V103 := Lib.hid (V96.out.keeps (ht18.keeps (by have z1 := Z1.out; have z2 := Z2.out; have z3 := Z3.out; have z4 := Z4.out; have z5 := Z5.out; have z6 := Z6.out; have z7 := Z7.out; have z8 := Z8.out; have z9 := Z9.out; have z10 := Z10.out; have z11 := Z11.out; have z12 := Z12.out; have z14 := Z14.out; have z15 := Z15.out; have z16 := Z16.out; have z17 := Z17.out; omega)))
  have W104 := Lib.hid (W97.out.of_block (ht18.block _ W97.out.lt (by have z1 := Z1.out; have z2 := Z2.out; have z3 := Z3.out; have z4 := Z4.out; have z5 := Z5.out; have z6 := Z6.out; have z7 := Z7.out; have z8 := Z8.out; have z9 := Z9.out; have z10 := Z10.out; have z11 := Z11.out; have z12 := Z12.out; have z14 := Z14.out; have z15 := Z15.out; have z16 := Z16.out; have z17 := Z17.out; omega)))
  have S105 := Lib.hid (S99.out.keeps (ht18.keeps (by have z1 := Z1.out; have z2 := Z2.out; have z3 := Z3.out; have z4 := Z4.out; have z5 := Z5.out; have z6 := Z6.out; have z7 := Z7.out; have z8 := Z8.out; have z9 := Z9.out; have z10 := Z10.out; have z11 := Z11.out; have z12 := Z12.out; have z14 := Z14.out; have z15 := Z15.out; have z16 := Z16.out; have z17 := Z17.out; omega)))
  have Sb106 := Lib.hid (Sb100.out.of_block (ht18.block _ Sb100.out.lt (by have z1 := Z1.out; have z2 := Z2.out; have z3 := Z3.out; have z4 := Z4.out; have z5 := Z5.out; have z6 := Z6.out; have z7 := Z7.out; have z8 := Z8.out; have z9 := Z9.out; have z10 := Z10.out; have z11 := Z11.out; have z12 := Z12.out; have z14 := Z14.out; have z15 := Z15.out; have z16 := Z16.out; have z17 := Z17.out; omega)))
  clear B94 A95 V96 W97 S99 Sb100
  have Z18 : Hid (w17.heap.size ≤ w18.heap.size) := Lib.hid ht18.size
  clear ht18
  obtain ⟨sbc0, sbc1, sbc2, _⟩ := Sb106.out
  have sblt := Sb106.out.lt
  obtain ⟨wc0, wc1, wc2, _⟩ := W104.out
  have wlt := W104.out.lt
  go_wp2_with fail
  clear sbc0 sbc1 sbc2 sblt wc0 wc1 wc2 wlt
  refine (eqModel_same _ _ _ _ _ _ mr _ S105.out.read V103.out.read).mono ?_
  rintro e w19 ⟨rfl, hb19⟩
  have B107 : Hid (Below w.heap.size w w19) := Lib.hid (B101.out.trans (hb19.mono B101.out.size))
  have A108 := Lib.hid (A102.out.below hb19)
  have V109 := Lib.hid (V103.out.keeps (Keeps.of_all hb19))
  have W110 := Lib.hid (W104.out.below hb19)
  have S111 := Lib.hid (S105.out.keeps (Keeps.of_all hb19))
  have Sb112 := Lib.hid (Sb106.out.below hb19)
  clear B101 A102 V103 W104 S105 Sb106
  have Z19 : Hid (w18.heap.size ≤ w19.heap.size) := Lib.hid hb19.size
  clear hb19
  obtain ⟨sbc0, sbc1, sbc2, _⟩ := Sb112.out
  have sblt := Sb112.out.lt
  go_wp2_with fail
  clear sbc0 sbc1 sbc2 sblt
  refine (markModel_own _ _ _ _ 1 _ HMR.out (by omega) (by have z1 := Z1.out; have z2 := Z2.out; have z3 := Z3.out; have z4 := Z4.out; have z5 := Z5.out; have z6 := Z6.out; have z7 := Z7.out; have z8 := Z8.out; have z9 := Z9.out; have z10 := Z10.out; have z11 := Z11.out; have z12 := Z12.out; have z14 := Z14.out; have z15 := Z15.out; have z16 := Z16.out; have z17 := Z17.out; have z18 := Z18.out; have z19 := Z19.out; omega) S111.out).mono ?_
  rintro e w20 ⟨rfl, hm20, ht20⟩
  have H113 := Lib.hid hm20
  clear hm20
  clear S111
  have B114 : Hid (Below w.heap.size w w20) := Lib.hid (B107.out.trans (ht20.below (by have z1 := Z1.out; have z2 := Z2.out; have z3 := Z3.out; have z4 := Z4.out; have z5 := Z5.out; have z6 := Z6.out; have z7 := Z7.out; have z8 := Z8.out; have z9 := Z9.out; have z10 := Z10.out; have z11 := Z11.out; have z12 := Z12.out; have z14 := Z14.out; have z15 := Z15.out; have z16 := Z16.out; have z17 := Z17.out; have z18 := Z18.out; have z19 := Z19.out; omega) B107.out.size))
  have A115 := Lib.hid (A108.out.of_block (ht20.block _ A108.out.lt (by have z1 := Z1.out; have z2 := Z2.out; have z3 := Z3.out; have z4 := Z4.out; have z5 := Z5.out; have z6 := Z6.out; have z7 := Z7.out; have z8 := Z8.out; have z9 := Z9.out; have z10 := Z10.out; have z11 := Z11.out; have z12 := Z12.out; have z14 := Z14.out; have z15 := Z15.out; have z16 := Z16.out; have z17 := Z17.out; have z18 := Z18.out; have z19 := Z19.out; omega)))
  have V116 := Lib.hid (V109.out.keeps (ht20.keeps (by have z1 := Z1.out; have z2 := Z2.out; have z3 := Z3.out; have z4 := Z4.out; have z5 := Z5.out; have z6 := Z6.out; have z7 := Z7.out; have z8 := Z8.out; have z9 := Z9.out; have z10 := Z10.out; have z11 := Z11.out; have z12 := Z12.out; have z14 := Z14.out; have z15 := Z15.out; have z16 := Z16.out; have z17 := Z17.out; have z18 := Z18.out; have z19 := Z19.out; omega)))
  have W117 := Lib.hid (W110.out.of_block (ht20.block _ W110.out.lt (by have z1 := Z1.out; have z2 := Z2.out; have z3 := Z3.out; have z4 := Z4.out; have z5 := Z5.out; have z6 := Z6.out; have z7 := Z7.out; have z8 := Z8.out; have z9 := Z9.out; have z10 := Z10.out; have z11 := Z11.out; have z12 := Z12.out; have z14 := Z14.out; have z15 := Z15.out; have z16 := Z16.out; have z17 := Z17.out; have z18 := Z18.out; have z19 := Z19.out; omega)))
  have Sb118 := Lib.hid (Sb112.out.of_block (ht20.block _ Sb112.out.lt (by have z1 := Z1.out; have z2 := Z2.out; have z3 := Z3.out; have z4 := Z4.out; have z5 := Z5.out; have z6 := Z6.out; have z7 := Z7.out; have z8 := Z8.out; have z9 := Z9.out; have z10 := Z10.out; have z11 := Z11.out; have z12 := Z12.out; have z14 := Z14.out; have z15 := Z15.out; have z16 := Z16.out; have z17 := Z17.out; have z18 := Z18.out; have z19 := Z19.out; omega)))
  clear B107 A108 V109 W110 Sb112
  have Z20 : Hid (w19.heap.size ≤ w20.heap.size) := Lib.hid ht20.size
  clear ht20
  obtain ⟨sbc0, sbc1, sbc2, _⟩ := Sb118.out
  have sblt := Sb118.out.lt
  go_wp2_with fail
  clear sbc0 sbc1 sbc2 sblt
  refine (heldModel_any _ _ _ mr 1 _ HMR.out (by omega) H113.out.read).mono ?_
  rintro e w21 ⟨rfl, hb21⟩
  have B119 : Hid (Below w.heap.size w w21) := Lib.hid (B114.out.trans (hb21.mono B114.out.size))
  have A120 := Lib.hid (A115.out.below hb21)
  have V121 := Lib.hid (V116.out.keeps (Keeps.of_all hb21))
  have W122 := Lib.hid (W117.out.below hb21)
  have Sb123 := Lib.hid (Sb118.out.below hb21)
  have H124 := Lib.hid (H113.out.keeps (Keeps.of_all hb21))
  clear B114 A115 V116 W117 Sb118 H113
  have Z21 : Hid (w20.heap.size ≤ w21.heap.size) := Lib.hid hb21.size
  clear hb21
  obtain ⟨ac0, ac1, ac2, _⟩ := A120.out
  have alt := A120.out.lt
  go_wp2_with fail
  refine (KT.out _ B119.out HSM.out).mono ?_
  rintro e w22 ⟨v22, rfl, ho22, hb22⟩
  clear ac0 ac1 ac2 alt
  have B125 : Hid (Below w.heap.size w w22) := Lib.hid (B119.out.trans (hb22.mono B119.out.size))
  have A126 := Lib.hid (A120.out.below hb22)
  have V127 := Lib.hid (V121.out.keeps (Keeps.of_all hb22))
  have W128 := Lib.hid (W122.out.below hb22)
  have Sb129 := Lib.hid (Sb123.out.below hb22)
  have H130 := Lib.hid (H124.out.keeps (Keeps.of_all hb22))
  clear B119 A120 V121 W122 Sb123 H124
  have Z22 : Hid (w21.heap.size ≤ w22.heap.size) := Lib.hid hb22.size
  have P131 := Lib.hid ho22
  clear ho22 hb22
  go_wp2_with fail
  refine (KN1.out _ B125.out).mono ?_
  rintro e w23 ⟨v23, vs23, rfl, ho23, hb23⟩
  have B132 : Hid (Below w.heap.size w w23) := Lib.hid (B125.out.trans (hb23.mono B125.out.size))
  have A133 := Lib.hid (A126.out.below hb23)
  have V134 := Lib.hid (V127.out.keeps (Keeps.of_all hb23))
  have W135 := Lib.hid (W128.out.below hb23)
  have Sb136 := Lib.hid (Sb129.out.below hb23)
  have H137 := Lib.hid (H130.out.keeps (Keeps.of_all hb23))
  have P138 := Lib.hid (P131.out.keeps (Keeps.of_all hb23))
  clear B125 A126 V127 W128 Sb129 H130 P131
  have Z23 : Hid (w22.heap.size ≤ w23.heap.size) := Lib.hid hb23.size
  have Q139 := Lib.hid ho23
  clear ho23 hb23
  go_wp2_with fail
  refine (KI.out _ _ _ _ _ _ _ P138.out.read (by have z1 := Z1.out; have z2 := Z2.out; have z3 := Z3.out; have z4 := Z4.out; have z5 := Z5.out; have z6 := Z6.out; have z7 := Z7.out; have z8 := Z8.out; have z9 := Z9.out; have z10 := Z10.out; have z11 := Z11.out; have z12 := Z12.out; have z14 := Z14.out; have z15 := Z15.out; have z16 := Z16.out; have z17 := Z17.out; have z18 := Z18.out; have z19 := Z19.out; have z20 := Z20.out; have z21 := Z21.out; have z22 := Z22.out; have z23 := Z23.out; omega) Q139.out.read).mono ?_
  rintro e w24 ⟨v24, rfl, ho24, hb24⟩
  have B140 : Hid (Below w.heap.size w w24) := Lib.hid (B132.out.trans (hb24.mono B132.out.size))
  have A141 := Lib.hid (A133.out.below hb24)
  have V142 := Lib.hid (V134.out.keeps (Keeps.of_all hb24))
  have W143 := Lib.hid (W135.out.below hb24)
  have Sb144 := Lib.hid (Sb136.out.below hb24)
  have H145 := Lib.hid (H137.out.keeps (Keeps.of_all hb24))
  have P146 := Lib.hid (P138.out.keeps (Keeps.of_all hb24))
  have Q147 := Lib.hid (Q139.out.keeps (Keeps.of_all hb24))
  clear B132 A133 V134 W135 Sb136 H137 P138 Q139
  have Z24 : Hid (w23.heap.size ≤ w24.heap.size) := Lib.hid hb24.size
  have O148 := Lib.hid ho24
  clear ho24 hb24
  clear P146
  clear Q147
  obtain ⟨fa24, fc24, ba24, bc24, e24⟩ := O148.out.read.form
  subst e24
  obtain ⟨wc0, wc1, wc2, _⟩ := W143.out
  have wlt := W143.out.lt
  go_wp2_with fail
  clear wc0 wc1 wc2 wlt
  have Ob149 := Lib.hid (Mcell.new (w := w24) (T := 26) (b := w24.heap.size) (fv := .slice fa24 mr.facts.length fc24) (bv := .slice ba24 mr.blocks.length bc24) (n := mr.actual) rfl)
  have hb25 : Below w24.heap.size w24 (w24.alloc (.cells #[.slice fa24 mr.facts.length fc24, .slice ba24 mr.blocks.length bc24, .int .i64 mr.actual] 26)) := by go_grown
  have hz25 : (w24.alloc (.cells #[.slice fa24 mr.facts.length fc24, .slice ba24 mr.blocks.length bc24, .int .i64 mr.actual] 26)).heap.size = w24.heap.size + 1 := by simp
  generalize w24.alloc (.cells #[.slice fa24 mr.facts.length fc24, .slice ba24 mr.blocks.length bc24, .int .i64 mr.actual] 26) = w25 at *
  have B150 : Hid (Below w.heap.size w w25) := Lib.hid (B140.out.trans (hb25.mono B140.out.size))
  have A151 := Lib.hid (A141.out.below hb25)
  have V152 := Lib.hid (V142.out.keeps (Keeps.of_all hb25))
  have W153 := Lib.hid (W143.out.below hb25)
  have Sb154 := Lib.hid (Sb144.out.below hb25)
  have H155 := Lib.hid (H145.out.keeps (Keeps.of_all hb25))
  have O156 := Lib.hid (O148.out.keeps (Keeps.of_all hb25))
  clear B140 A141 V142 W143 Sb144 H145 O148
  have Z25 := Lib.hid hz25
  clear hb25 hz25
  refine (eqModel_same _ _ _ _ _ _ mr _ O156.out.read V152.out.read).mono ?_
  rintro e w26 ⟨rfl, hb26⟩
  have B157 : Hid (Below w.heap.size w w26) := Lib.hid (B150.out.trans (hb26.mono B150.out.size))
  have A158 := Lib.hid (A151.out.below hb26)
  have V159 := Lib.hid (V152.out.keeps (Keeps.of_all hb26))
  have W160 := Lib.hid (W153.out.below hb26)
  have Sb161 := Lib.hid (Sb154.out.below hb26)
  have H162 := Lib.hid (H155.out.keeps (Keeps.of_all hb26))
  have O163 := Lib.hid (O156.out.keeps (Keeps.of_all hb26))
  have Ob164 := Lib.hid (Ob149.out.below hb26)
  clear B150 A151 V152 W153 Sb154 H155 O156 Ob149
  have Z26 : Hid (w25.heap.size ≤ w26.heap.size) := Lib.hid hb26.size
  clear hb26
  obtain ⟨sbc0, sbc1, sbc2, _⟩ := Sb161.out
  have sblt := Sb161.out.lt
  go_wp2_with fail
  clear sbc0 sbc1 sbc2 sblt
  refine (heldModel_any _ _ _ mr 1 _ HMR.out (by omega) H162.out.read).mono ?_
  rintro e w27 ⟨rfl, hb27⟩
  have B165 : Hid (Below w.heap.size w w27) := Lib.hid (B157.out.trans (hb27.mono B157.out.size))
  have A166 := Lib.hid (A158.out.below hb27)
  have V167 := Lib.hid (V159.out.keeps (Keeps.of_all hb27))
  have W168 := Lib.hid (W160.out.below hb27)
  have Sb169 := Lib.hid (Sb161.out.below hb27)
  have H170 := Lib.hid (H162.out.keeps (Keeps.of_all hb27))
  have O171 := Lib.hid (O163.out.keeps (Keeps.of_all hb27))
  have Ob172 := Lib.hid (Ob164.out.below hb27)
  clear B157 A158 V159 W160 Sb161 H162 O163 Ob164
  have Z27 : Hid (w26.heap.size ≤ w27.heap.size) := Lib.hid hb27.size
  clear hb27
  go_wp2
  go_ret
  exact ⟨rfl, B165.out⟩
end Go.Proofs.YtodjohdbngbpaaaGreat
