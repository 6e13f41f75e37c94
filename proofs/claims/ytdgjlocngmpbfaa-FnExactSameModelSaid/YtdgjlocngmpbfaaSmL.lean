/-
  The walk of the law FnExactSameModel: it returns true and writes nothing that was there. No condition.
-/
import Derived.Test.YtdgjlocngmpbfaaEqf
import Derived.Test.YtdgjlocngmpbfaaSbi
namespace Go.Proofs.Ytdgjlocngmpbfaa
open Go.RowKit Go.WideShapes
open Go Go.Deep
set_option linter.unusedSimpArgs false

set_option maxHeartbeats 2000000 in
theorem szModelL_any (lo hi : Nat) (v : Value) (m : Md) (left : Int) (w : World) (h : Mv lo hi w v m) (hl0 : 0 ≤ left) (hl1 : left ≤ 1048576) :
    Calls Try.prog 25 #[v, .int .i64 left] w fun e w' => e = .returned (.int .i64 (budget left (msize m + m.blocks.length))) ∧ Below w.heap.size w w' := by
  obtain ⟨fv, bv, rfl, hf, hb⟩ := h
  obtain ⟨fa, fc, e1⟩ := hf.form
  obtain ⟨ba, bc, e2, hxx⟩ := hb.parts
  clear hxx
  subst e1
  subst e2
  rw [show msize m + m.blocks.length = m.facts.length + (m.blocks.length + tot m.blocks) by unfold msize; omega, budget_add]
  have KF := Lib.hid (fun W (h : Below w.heap.size w W) => szIntS_any lo hi _ m.facts left W (hf.keeps (Keeps.of_all h)) (by omega) (by omega))
  by_cases h1 : left - (m.facts.length : Int) < 0
  · rw [if_pos h1]
    have hbud : budget left m.facts.length = -1 := by unfold budget; rw [if_pos h1]
    rw [hbud] at KF
    clear hbud hf hb
    go_enter Try.func25, Try.ntmps25
    go_wp2_with fail
    refine (KF.out _ (by go_grown)).mono ?_
    rintro e w' ⟨rfl, rfl⟩
    go_wp2
    go_ret
    exact ⟨rfl, by go_grown⟩
  · rw [if_neg h1]
    have hbud : budget left m.facts.length = left - m.facts.length := by unfold budget; rw [if_neg h1]
    rw [hbud] at KF
    have KB := Lib.hid (fun W (h : Below w.heap.size w W) => szIntSS_any lo hi _ m.blocks (left - m.facts.length) W (hb.keeps (Keeps.of_all h)) (by omega) (by omega))
    clear hbud hf hb
    have hcase : budget (left - m.facts.length) (m.blocks.length + tot m.blocks) = -1 ∨ 0 ≤ budget (left - m.facts.length) (m.blocks.length + tot m.blocks) := by
      unfold budget
      split
      · exact .inl rfl
      · exact .inr (by omega)
    generalize budget (left - m.facts.length) (m.blocks.length + tot m.blocks) = q at *
    rcases hcase with rfl | hq
    · go_enter Try.func25, Try.ntmps25
      go_wp2_with fail
      refine (KF.out _ (by go_grown)).mono ?_
      rintro e w' ⟨rfl, rfl⟩
      go_wp2_with fail
      refine (KB.out _ (by go_grown)).mono ?_
      rintro e w' ⟨rfl, rfl⟩
      go_wp2
      go_ret
      exact ⟨rfl, by go_grown⟩
    · go_enter Try.func25, Try.ntmps25
      go_wp2_with fail
      refine (KF.out _ (by go_grown)).mono ?_
      rintro e w' ⟨rfl, rfl⟩
      go_wp2_with fail
      refine (KB.out _ (by go_grown)).mono ?_
      rintro e w' ⟨rfl, rfl⟩
      go_wp2
      go_ret
      exact ⟨rfl, by go_grown⟩

theorem budgetL_big {l : Int} {n : Nat} (h : l < n) : budget l n = -1 := by unfold budget; rw [if_pos (by omega)]
theorem budgetL_small {l : Int} {n : Nat} (h : n ≤ l) : budget l n = l - n := by unfold budget; rw [if_neg (by omega)]

set_option maxRecDepth 100000 in
set_option maxHeartbeats 16000000 in
theorem walk_FnExactSameModel (v0 : Value) (m : Md) (v1 : Value) (m' : Md) (w : World) (h0 : Mv 0 w.heap.size w v0 m) (h1 : Mv 0 w.heap.size w v1 m') :
    Calls Try.prog 13 #[v0, v1] w fun e w' => e = .returned (.bool true) ∧ Below w.heap.size w w' := by
  have KZ := Lib.hid (fun W (h : Below w.heap.size w W) => szModel_any 0 w.heap.size v0 m W (h0.keeps (Keeps.of_all h)))
  have KY := Lib.hid (fun left hl0 hl1 W (h : Below w.heap.size w W) => szModelL_any 0 w.heap.size v1 m' left W (h1.keeps (Keeps.of_all h)) hl0 hl1)
  have KT := Lib.hid (fun W (h : Below w.heap.size w W) => toModel_any 0 w.heap.size v0 m W (h0.keeps (Keeps.of_all h)) h.size)
  have KU := Lib.hid (fun W (h : Below w.heap.size w W) => toModel_any 0 w.heap.size v1 m' W (h1.keeps (Keeps.of_all h)) h.size)
  obtain ⟨f0, b0, rfl, hf0, hb0⟩ := h0
  obtain ⟨f1, b1, rfl, hf1, hb1⟩ := h1
  clear hf0 hb0 hf1 hb1
  by_cases hbig : 1048576 < msize m + m.blocks.length
  · rw [budget_big hbig] at KZ
    clear KT KU KY hbig
    go_enter Try.func13, Try.ntmps13
    go_wp2_with fail
    refine (KZ.out _ (by go_grown)).mono ?_
    rintro e w1 ⟨rfl, hb1⟩
    have B1 : Hid (Below w.heap.size w w1) := Lib.hid (Below.trans (by go_grown) (hb1.mono (by simp; omega)))
    clear hb1
    go_wp2
    go_ret
    exact ⟨rfl, B1.out⟩
  have hsm : msize m + m.blocks.length ≤ 1048576 := by omega
  rw [budget_small hsm] at KZ
  have hbn : (0 : Int) ≤ 1048576 - ((msize m + m.blocks.length : Nat) : Int) := by omega
  have hbl : (1048576 : Int) - ((msize m + m.blocks.length : Nat) : Int) ≤ 1048576 := by omega
  have HSM := Lib.hid hsm
  generalize (1048576 : Int) - ((msize m + m.blocks.length : Nat) : Int) = left at *
  have KY := Lib.hid (KY.out left hbn hbl)
  clear hbig hsm
  by_cases hbig : left < ((msize m' + m'.blocks.length : Nat) : Int)
  · rw [budgetL_big hbig] at KY
    clear KT KU hbig
    go_enter Try.func13, Try.ntmps13
    go_wp2_with fail
    refine (KZ.out _ (by go_grown)).mono ?_
    rintro e w1 ⟨rfl, hb1⟩
    have B1 : Hid (Below w.heap.size w w1) := Lib.hid (Below.trans (by go_grown) (hb1.mono (by simp; omega)))
    have D1 := Lib.hid (Mcell.below (b := w.heap.size + 1) (Mcell.new (by simp)) hb1)
    clear hb1
    obtain ⟨d0, d1, d2, _⟩ := D1.out
    go_wp2_with fail
    refine (KY.out _ B1.out).mono ?_
    rintro e w2 ⟨rfl, hb2⟩
    have B2 := Lib.hid (B1.out.trans (hb2.mono B1.out.size))
    clear hb2
    go_wp2
    go_ret
    exact ⟨rfl, B2.out⟩
  have hsm : ((msize m' + m'.blocks.length : Nat) : Int) ≤ left := by omega
  rw [budgetL_small hsm] at KY
  have hbn2 : (0 : Int) ≤ left - ((msize m' + m'.blocks.length : Nat) : Int) := by omega
  have HSM2 : Hid (msize m' + m'.blocks.length ≤ 1048576) := Lib.hid (by omega)
  generalize left - ((msize m' + m'.blocks.length : Nat) : Int) = left2 at *
  have KS := Lib.hid (fun lo hi lo' hi' u v W h h' => specSameM_any lo hi lo' hi' u v m m' W h h')
  have KI := Lib.hid (fun lo hi lo' hi' u v W h h' => implSameM_any lo hi lo' hi' u v m m' W h h')
  have KE := Lib.hid (fun lo hi lo' hi' u v W h h' => eqModel_same lo hi lo' hi' u v m W h h')
  have KF := Lib.hid (fun lo hi lo' hi' u v W h h' => eqModel_same lo hi lo' hi' u v m' W h h')
  clear hbig hsm
  generalize sameM m m' = ok at *
  go_enter Try.func13, Try.ntmps13
  go_wp2_with fail
  refine (KZ.out _ (by go_grown)).mono ?_
  rintro e w1 ⟨rfl, hb1⟩
  have B1 : Hid (Below w.heap.size w w1) := Lib.hid (Below.trans (by go_grown) (hb1.mono (by simp; omega)))
  have A1 := Lib.hid (Mcell.below (b := w.heap.size) (Mcell.alloc (Mcell.new rfl) _) hb1)
  have D1 := Lib.hid (Mcell.below (b := w.heap.size + 1) (Mcell.new (by simp)) hb1)
  clear hb1
  obtain ⟨d0, d1, d2, _⟩ := D1.out
  go_wp2_with fail
  refine (KY.out _ B1.out).mono ?_
  rintro e w2 ⟨rfl, hb2⟩
  have A2 := Lib.hid (A1.out.below hb2)
  have D2 := Lib.hid (D1.out.below hb2)
  have B2 := Lib.hid (B1.out.trans (hb2.mono B1.out.size))
  clear hb2 d0 d1 d2 A1 D1 B1
  go_wp2
  refine wp_region_held_drew (S := fun w' => Below w2.heap.size w2 w') (by kernel_rfl) (Below.refl _ _).drew (fun hHeld => ?_)
  refine wpAnyH_takeD (i := 0) (v := .agg #[f0, b0, .int .i64 m.actual]) 20 rfl rfl (by kernel_rfl) (by kernel_rfl) (by kernel_rfl) (fun _ _ _ h => h) (Or.inl ⟨by rfl, by intro W hSw; obtain ⟨c0, c1, c2, _⟩ := A2.out.below hSw; go_simp⟩) hHeld ?_
  simp only [Act.put, List.setIfInBounds_toArray, List.set_cons_zero, List.set_cons_succ]
  refine wpAnyH_takeD (i := 2) (v := .agg #[f1, b1, .int .i64 m'.actual]) 22 rfl rfl (by kernel_rfl) (by kernel_rfl) (by kernel_rfl) (fun _ _ _ h => h) (Or.inl ⟨by rfl, by intro W hSw; obtain ⟨c0, c1, c2, _⟩ := D2.out.below hSw; go_simp⟩) hHeld ?_
  simp only [Act.put, List.setIfInBounds_toArray, List.set_cons_zero, List.set_cons_succ]
  refine wpAnyH_ready (rs := [1]) (by kernel_rfl) (by simp) ?_
  refine AllReadyH.cons rfl (fun K hK => ?_) AllReadyH.nil
  · go_simp
    refine (KT.out _ (B2.out.trans (hHeld.mono B2.out.size)) HSM.out).mono ?_
    rintro e w3 ⟨v3, rfl, hi3, hb3⟩
    have hB3 : Below w2.heap.size w2 w3 := hHeld.trans (hb3.mono hHeld.size)
    have M3 := Lib.hid hi3.read
    clear hi3 hb3 hHeld
    refine hK.out _ _ hB3 (fun hHeld => ?_)
    try simp only [Act.put, List.setIfInBounds_toArray, List.set_cons_zero, List.set_cons_succ]
    clear hK K hB3
    refine wpAnyH_ready (rs := [3]) (by kernel_rfl) (by simp) ?_
    refine AllReadyH.cons rfl (fun K hK => ?_) AllReadyH.nil
    go_simp
    refine (KU.out _ (B2.out.trans (hHeld.mono B2.out.size)) HSM2.out).mono ?_
    rintro e w4 ⟨v4, rfl, hi4, hb4⟩
    have hB4 : Below w2.heap.size w2 w4 := hHeld.trans (hb4.mono hHeld.size)
    have M4 := Lib.hid hi4.read
    have KS4 := Lib.hid (KS.out _ _ _ _ _ _ _ (M3.out.keeps (Keeps.of_all hb4)) M4.out)
    clear hi4 hb4 hHeld M3 M4
    refine hK.out _ _ hB4 (fun hHeld => ?_)
    try simp only [Act.put, List.setIfInBounds_toArray, List.set_cons_zero, List.set_cons_succ]
    clear hK K hB4
    refine wpAnyH_ready (rs := [4]) (by kernel_rfl) (by simp) ?_
    refine AllReadyH.cons rfl (fun K hK => ?_) AllReadyH.nil
    go_simp
    refine KS4.out.mono ?_
    rintro e w5 ⟨rfl, hb5⟩
    have hB5 : Below w2.heap.size w2 w5 := hHeld.trans (hb5.mono hHeld.size)
    clear hb5 hHeld KS4
    refine hK.out _ _ hB5 (fun hHeld => ?_)
    try simp only [Act.put, List.setIfInBounds_toArray, List.set_cons_zero, List.set_cons_succ]
    clear hK K
    refine wpAnyH_takeD (i := 5) (v := .bool ok) 6 rfl rfl (by kernel_rfl) (by kernel_rfl) (by kernel_rfl) (fun _ _ _ h => h) (Or.inl ⟨by rfl, by intro W hSw; go_simp⟩) hHeld ?_
    simp only [Act.put, List.setIfInBounds_toArray, List.set_cons_zero, List.set_cons_succ]
    refine wpAnyH_done (by kernel_rfl) ?_ _
    have A5 := Lib.hid (A2.out.below hB5)
    have D5 := Lib.hid (D2.out.below hB5)
    have B5 := Lib.hid (B2.out.trans (hB5.mono B2.out.size))
    clear hB5 hHeld A2 D2 B2 KS
    obtain ⟨a0, a1, a2, _⟩ := A5.out
    go_wp2_with fail
    refine (KT.out _ B5.out HSM.out).mono ?_
    rintro e w6 ⟨v6, rfl, hi6, hb6⟩
    have X6 := Lib.hid hi6.read
    have A6 := Lib.hid (A5.out.below hb6)
    have D6 := Lib.hid (D5.out.below hb6)
    have B6 := Lib.hid (B5.out.trans (hb6.mono B5.out.size))
    clear hi6 hb6 a0 a1 a2 A5 D5 B5
    obtain ⟨fa, fc, ba, bc, e6⟩ := X6.out.form
    subst e6
    have Y7 := Lib.hid (Mcell.new (w := w6) (T := 26) (b := w6.heap.size) (fv := .slice fa m.facts.length fc) (bv := .slice ba m.blocks.length bc) (n := m.actual) rfl)
    have B7' : Below w6.heap.size w6 (w6.alloc (.cells #[.slice fa m.facts.length fc, .slice ba m.blocks.length bc, .int .i64 m.actual] 26)) := by go_grown
    have X7 := Lib.hid (X6.out.keeps (Keeps.of_all B7'))
    have A7 := Lib.hid (A6.out.below B7')
    have D7 := Lib.hid (D6.out.below B7')
    have B7 := Lib.hid (B6.out.trans (B7'.mono B6.out.size))
    clear B7' X6 A6 D6 B6
    obtain ⟨d0, d1, d2, _⟩ := D7.out
    go_wp2_with fail
    refine (KU.out _ B7.out HSM2.out).mono ?_
    rintro e w8 ⟨v8, rfl, hi8, hb8⟩
    have Z8 := Lib.hid hi8.read
    have X8 := Lib.hid (X7.out.keeps (Keeps.of_all hb8))
    have Y8 := Lib.hid (Y7.out.below hb8)
    have A8 := Lib.hid (A7.out.below hb8)
    have D8 := Lib.hid (D7.out.below hb8)
    have B8 := Lib.hid (B7.out.trans (hb8.mono B7.out.size))
    clear hi8 hb8 d0 d1 d2 X7 Y7 A7 D7 B7
    obtain ⟨ga, gc, ha, hc, e8⟩ := Z8.out.form
    subst e8
    have Q9 := Lib.hid (Mcell.new (w := w8) (T := 26) (b := w8.heap.size) (fv := .slice ga m'.facts.length gc) (bv := .slice ha m'.blocks.length hc) (n := m'.actual) rfl)
    have B9' : Below w8.heap.size w8 (w8.alloc (.cells #[.slice ga m'.facts.length gc, .slice ha m'.blocks.length hc, .int .i64 m'.actual] 26)) := by go_grown
    have Z9 := Lib.hid (Z8.out.keeps (Keeps.of_all B9'))
    have X9 := Lib.hid (X8.out.keeps (Keeps.of_all B9'))
    have Y9 := Lib.hid (Y8.out.below B9')
    have A9 := Lib.hid (A8.out.below B9')
    have D9 := Lib.hid (D8.out.below B9')
    have B9 := Lib.hid (B8.out.trans (B9'.mono B8.out.size))
    clear B9' Z8 X8 Y8 A8 D8 B8
    obtain ⟨y0, y1, y2, _⟩ := Y9.out
    go_wp2_with fail
    refine (KI.out _ _ _ _ _ _ _ X9.out Z9.out).mono ?_
    rintro e w10 ⟨rfl, hb10⟩
    have Q10 := Lib.hid (Q9.out.below hb10)
    have Z10 := Lib.hid (Z9.out.keeps (Keeps.of_all hb10))
    have X10 := Lib.hid (X9.out.keeps (Keeps.of_all hb10))
    have Y10 := Lib.hid (Y9.out.below hb10)
    have A10 := Lib.hid (A9.out.below hb10)
    have D10 := Lib.hid (D9.out.below hb10)
    have B10 := Lib.hid (B9.out.trans (hb10.mono B9.out.size))
    clear hb10 y0 y1 y2 Q9 Z9 X9 Y9 A9 D9 B9
    go_wp2
    refine wp_region_held_drew (S := fun w' => Below w10.heap.size w10 w') (by kernel_rfl) (Below.refl _ _).drew (fun hHeld => ?_)
    refine wpAnyH_takeD (i := 0) (v := .agg #[.slice fa m.facts.length fc, .slice ba m.blocks.length bc, .int .i64 m.actual]) 35 rfl rfl (by kernel_rfl) (by kernel_rfl) (by kernel_rfl) (fun _ _ _ h => h) (Or.inl ⟨by rfl, by intro W hSw; obtain ⟨c0, c1, c2, _⟩ := Y10.out.below hSw; go_simp⟩) hHeld ?_
    simp only [Act.put, List.setIfInBounds_toArray, List.set_cons_zero, List.set_cons_succ]
    refine wpAnyH_takeD (i := 1) (v := .agg #[f0, b0, .int .i64 m.actual]) 36 rfl rfl (by kernel_rfl) (by kernel_rfl) (by kernel_rfl) (fun _ _ _ h => h) (Or.inl ⟨by rfl, by intro W hSw; obtain ⟨c0, c1, c2, _⟩ := A10.out.below hSw; go_simp⟩) hHeld ?_
    simp only [Act.put, List.setIfInBounds_toArray, List.set_cons_zero, List.set_cons_succ]
    refine wpAnyH_ready (rs := [2]) (by kernel_rfl) (by simp) ?_
    refine AllReadyH.cons rfl (fun K hK => ?_) AllReadyH.nil
    go_simp
    refine (KT.out _ (B10.out.trans (hHeld.mono B10.out.size)) HSM.out).mono ?_
    rintro e w11 ⟨v11, rfl, hi11, hb11⟩
    have hB11 : Below w10.heap.size w10 w11 := hHeld.trans (hb11.mono hHeld.size)
    have M11 := Lib.hid hi11.read
    clear hi11 hb11 hHeld
    refine hK.out _ _ hB11 (fun hHeld => ?_)
    try simp only [Act.put, List.setIfInBounds_toArray, List.set_cons_zero, List.set_cons_succ]
    clear hK K
    refine wpAnyH_ready (rs := [3]) (by kernel_rfl) (by simp) ?_
    refine AllReadyH.cons rfl (fun K hK => ?_) AllReadyH.nil
    go_simp
    refine (KE.out _ _ _ _ _ _ _ (X10.out.keeps (Keeps.of_all hB11)) M11.out).mono ?_
    rintro e w12 ⟨rfl, hb12⟩
    have hB12 : Below w10.heap.size w10 w12 := hB11.trans (hb12.mono hB11.size)
    clear hB11 hb12 hHeld
    refine hK.out _ _ hB12 (fun hHeld => ?_)
    try simp only [Act.put, List.setIfInBounds_toArray, List.set_cons_zero, List.set_cons_succ]
    clear hK K
    refine wpAnyH_takeD (i := 4) (v := .bool false) 39 rfl rfl (by kernel_rfl) (by kernel_rfl) (by kernel_rfl) (fun _ _ _ h => h) (Or.inl ⟨by rfl, by intro w hSw; go_simp⟩) hHeld ?_
    simp only [Act.put, List.setIfInBounds_toArray, List.set_cons_zero, List.set_cons_succ]
    refine wpAnyH_done (by kernel_rfl) ?_ _
    have Q10 := Lib.hid (Q10.out.below hB12)
    have Z10 := Lib.hid (Z10.out.keeps (Keeps.of_all hB12))
    have D10 := Lib.hid (D10.out.below hB12)
    have B10 := Lib.hid (B10.out.trans (hB12.mono B10.out.size))
    clear hB12 hHeld X10 Y10 A10 M11
    go_wp2
    refine wp_region_held_drew (S := fun w' => Below w12.heap.size w12 w') (by kernel_rfl) (Below.refl _ _).drew (fun hHeld => ?_)
    refine wpAnyH_takeD (i := 0) (v := .agg #[.slice ga m'.facts.length gc, .slice ha m'.blocks.length hc, .int .i64 m'.actual]) 40 rfl rfl (by kernel_rfl) (by kernel_rfl) (by kernel_rfl) (fun _ _ _ h => h) (Or.inl ⟨by rfl, by intro W hSw; obtain ⟨c0, c1, c2, _⟩ := Q10.out.below hSw; go_simp⟩) hHeld ?_
    simp only [Act.put, List.setIfInBounds_toArray, List.set_cons_zero, List.set_cons_succ]
    refine wpAnyH_takeD (i := 1) (v := .agg #[f1, b1, .int .i64 m'.actual]) 41 rfl rfl (by kernel_rfl) (by kernel_rfl) (by kernel_rfl) (fun _ _ _ h => h) (Or.inl ⟨by rfl, by intro W hSw; obtain ⟨c0, c1, c2, _⟩ := D10.out.below hSw; go_simp⟩) hHeld ?_
    simp only [Act.put, List.setIfInBounds_toArray, List.set_cons_zero, List.set_cons_succ]
    refine wpAnyH_ready (rs := [2]) (by kernel_rfl) (by simp) ?_
    refine AllReadyH.cons rfl (fun K hK => ?_) AllReadyH.nil
    go_simp
    refine (KU.out _ (B10.out.trans (hHeld.mono B10.out.size)) HSM2.out).mono ?_
    rintro e w11 ⟨v11, rfl, hi11, hb11⟩
    have hB11 : Below w12.heap.size w12 w11 := hHeld.trans (hb11.mono hHeld.size)
    have M11 := Lib.hid hi11.read
    clear hi11 hb11 hHeld
    refine hK.out _ _ hB11 (fun hHeld => ?_)
    try simp only [Act.put, List.setIfInBounds_toArray, List.set_cons_zero, List.set_cons_succ]
    clear hK K
    refine wpAnyH_ready (rs := [3]) (by kernel_rfl) (by simp) ?_
    refine AllReadyH.cons rfl (fun K hK => ?_) AllReadyH.nil
    go_simp
    refine (KF.out _ _ _ _ _ _ _ (Z10.out.keeps (Keeps.of_all hB11)) M11.out).mono ?_
    rintro e w14 ⟨rfl, hb12⟩
    have hB12 : Below w12.heap.size w12 w14 := hB11.trans (hb12.mono hB11.size)
    clear hB11 hb12 hHeld
    refine hK.out _ _ hB12 (fun hHeld => ?_)
    try simp only [Act.put, List.setIfInBounds_toArray, List.set_cons_zero, List.set_cons_succ]
    clear hK K
    refine wpAnyH_takeD (i := 4) (v := .bool false) 44 rfl rfl (by kernel_rfl) (by kernel_rfl) (by kernel_rfl) (fun _ _ _ h => h) (Or.inl ⟨by rfl, by intro w hSw; go_simp⟩) hHeld ?_
    simp only [Act.put, List.setIfInBounds_toArray, List.set_cons_zero, List.set_cons_succ]
    refine wpAnyH_done (by kernel_rfl) ?_ _
    have B10 := Lib.hid (B10.out.trans (hB12.mono B10.out.size))
    clear hB12 hHeld
    go_wp2
    go_ret
    exact ⟨rfl, B10.out⟩
end Go.Proofs.Ytdgjlocngmpbfaa
