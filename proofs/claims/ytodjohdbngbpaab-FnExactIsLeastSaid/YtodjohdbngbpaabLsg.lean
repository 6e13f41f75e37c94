/-
  grid.least: the least equal model of a grid: the reached worlds, their classes, each one world. Condition: the model is valid.
-/
import Derived.Test.YtodjohdbngbpaabMgd
import Derived.Test.YtodjohdbngbpaabZRen
import Derived.Test.YtodjohdbngbpaabZRch
import Derived.Test.YtodjohdbngbpaabTou
import Derived.Deep.DeepCutAuto
namespace Go.Proofs.Ytodjohdbngbpaab
open Go.RowKit Go.WideShapes
open Go Go.Deep
set_option linter.unusedSimpArgs false

def gM2 (m : Md) : List Int := gL m.facts.length m.blocks.length m.facts m.blocks m.actual
/-- the least equal model of a valid one -/
def leastM (m : Md) : Md := leastOf (restM m (reachSet m))
theorem leastR_eq {m : Md} (hm : mdOk m = true) : leastR m = some (leastM m) := by unfold leastR; rw [if_pos hm]; rfl

set_option maxRecDepth 100000 in
set_option maxHeartbeats 64000000 in
theorem least_any (m : Md) (hm : mdOk m = true) (w : World) :
    Calls Try.prog 17 #[.agg (ints (gM2 m)).toArray] w
      fun e w' => e = .returned (.agg (ints (gM2 (leastM m))).toArray) ∧ Below w.heap.size w w' := by
  obtain ⟨p1, p2, p3, p4, p5, p6, p7, p8⟩ := mdOk_parts hm
  have hs := md_small hm
  have hR := reach_ok hm
  have hsR := md_small hR
  obtain ⟨act, hact⟩ := Int.eq_ofNat_of_zero_le p7
  have hactn : act < m.facts.length := by omega
  have hat : m.actual.toNat = act := by rw [hact]; rfl
  have hbl : (restM m (reachSet m)).blocks.length = m.blocks.length := by simp [restM, rawRows_len]
  have hfl : (restM m (reachSet m)).facts.length = (reachSet m).length := pick_len _ _
  have HRS : Hid (lst (reachB m.blocks m.facts.length m.blocks.length act) 16 = reachSet m) := Lib.hid (by unfold reachSet; rw [hat])
  have HGE : Hid (gL (reachSet m).length m.blocks.length (restM m (reachSet m)).facts (restM m (reachSet m)).blocks (restM m (reachSet m)).actual = gM2 (restM m (reachSet m))) := Lib.hid (by unfold gM2; rw [hfl, hbl])
  have KR1 : Hid (∀ W, Calls Try.prog 30 #[.agg (ints (gM2 m)).toArray, .int .i64 act] W
      fun e W' => e = .returned (.agg (bL (reachB m.blocks m.facts.length m.blocks.length act)).toArray) ∧ Below W.heap.size W W') := Lib.hid (fun W => reached_any m.facts.length m.blocks.length m.actual m.facts m.blocks hs p2 p3 p4 act hactn W)
  have KR2 : Hid (∀ W, Calls Try.prog 29 #[.agg (ints (gM2 m)).toArray, .agg (bL (reachB m.blocks m.facts.length m.blocks.length act)).toArray] W
      fun e W' => e = .returned (.agg (ints (gM2 (restM m (reachSet m)))).toArray) ∧ Below W.heap.size W W') := Lib.hid (fun W => by
    have h := restricted_any m (reachB m.blocks m.facts.length m.blocks.length act) hm (fun i hi => reachSet_in hm ((reachSet_mem hm).2 (by rw [hat]; exact hi))) W
    rw [HRS.out, HGE.out] at h
    exact h)
  have KC : Hid (∀ W, Calls Try.prog 32 #[.agg (ints (gM2 (restM m (reachSet m)))).toArray] W
      fun e W' => e = .returned (.agg (ints (pad (lastC (restM m (reachSet m))))).toArray) ∧ Below W.heap.size W W') := Lib.hid (fun W => classes_any (restM m (reachSet m)) hR W)
  have KG : Hid (∀ W, Calls Try.prog 31 #[.agg (ints (gM2 (restM m (reachSet m)))).toArray, .agg (ints (pad (lastC (restM m (reachSet m))))).toArray] W
      fun e W' => e = .returned (.agg (ints (gM2 (leastM m))).toArray) ∧ Below W.heap.size W W') := Lib.hid (fun W => by
    have h := merged_any (restM m (reachSet m)) hR W
    rw [show gL (leastOf (restM m (reachSet m))).facts.length (restM m (reachSet m)).blocks.length (leastOf (restM m (reachSet m))).facts (leastOf (restM m (reachSet m))).blocks (leastOf (restM m (reachSet m))).actual = gM2 (leastM m) from by
      unfold gM2 leastM
      rw [show (leastOf (restM m (reachSet m))).blocks.length = (restM m (reachSet m)).blocks.length from by simp [leastOf]]] at h
    exact h)
  have HL : Hid ((ints (gM2 m)).length = 67) := Lib.hid (by rw [ints_len]; exact gL_len hs)
  have HL2 : Hid ((ints (gM2 (restM m (reachSet m)))).length = 67) := Lib.hid (by rw [ints_len]; exact gL_len hsR)
  have HL3 : Hid ((ints (gM2 (leastM m))).length = 67) := Lib.hid (by rw [ints_len]; exact gL_len (md_small (leastOf_ok hR)))
  have HC : Hid (∀ (W : World) b T, Cm W b T (ints (gM2 m)) → W.cell? ⟨b, 66, none⟩ = some (.int .i64 act)) := Lib.hid (fun W b T h => by have := (show Cm W b T (ints (gL m.facts.length m.blocks.length m.facts m.blocks m.actual)) from h).g66 hs; rw [hact] at this; exact this)
  have HAL0 := Lib.hid Try.allocGrid
  have HLZ : Hid ((ints (gL 0 0 [] [] 0)).length = 67) := Lib.hid (by rw [ints_len]; exact gL_len ⟨by simp, fun k => by simp⟩)
  clear HRS HGE hs hsR hR hact hat hbl hfl p1 p2 p3 p4 p5 p6 p7 p8
  generalize gL 0 0 [] [] 0 = Z0 at *
  generalize gM2 m = G at *
  generalize gM2 (restM m (reachSet m)) = G2 at *
  generalize gM2 (leastM m) = G3 at *
  generalize ints (pad (lastC (restM m (reachSet m)))) = C2 at *
  generalize bL (reachB m.blocks m.facts.length m.blocks.length act) = PB at *
  have HO2 := Lib.hid (fun v (hv : v ∈ ints G2) => ints_one hv)
  have HO3 := Lib.hid (fun v (hv : v ∈ ints G3) => ints_one hv)
  go_enter Try.func17, Try.ntmps17
  have tk1 : True := trivial
  go_wp2_with
    (first
      | (have _t := tk1; clear _t tk1; refine wpList_allocM (o := ⟨some 2, _, _, _, _, _⟩) rfl 42 rfl (ints Z0) HAL0.out ?_
         intro w1 hc1 hb1 hs1
         have C1 : Hid (Cm w1 w.heap.size 42 (ints G)) := Lib.hid (Cm.all (Cm.new rfl) hb1)
         rw [show (w.alloc (Obj.cells (ints G).toArray 42)).heap.size = w.heap.size + 1 from by simp] at hc1 ⊢
         have R1 : Hid (Cm w1 (w.heap.size + 1) 42 (ints Z0)) := Lib.hid hc1
         have B1 : Hid (Below w.heap.size w w1) := Lib.hid (Below.trans (by go_grown) (hb1.mono (by simp)))
         have lt1 : w.heap.size + 1 < w1.heap.size := R1.out.lt
         clear hc1 hb1 hs1))
  have HGW : Hid (∀ W, Below w1.heap.size w1 W → W.rangeAt w.heap.size 0 (ints G)) := Lib.hid (fun W hW => (C1.out.all hW).whole)
  have HGa : Hid (∀ W, Below w1.heap.size w1 W → W.cell? ⟨w.heap.size, 66, none⟩ = some (.int .i64 act)) := Lib.hid (fun W hW => HC.out _ _ _ (C1.out.all hW))
  have HU : Try.prog.underlying 42 = some _ := Try.underlying42
  try simp only [Act.put, List.setIfInBounds_toArray, List.set_cons_zero, List.set_cons_succ]
  go_cut [3] (fun p3 w' => ∃ b3, p3 = .pointer (some ⟨b3, 0, none⟩) ∧ w.heap.size + 1 < b3 ∧ Hid (Cm w' b3 42 (ints G2)) ∧ Hid (Cm w' w.heap.size 42 (ints G)) ∧ Hid (Cm w' (w.heap.size + 1) 42 (ints Z0)) ∧ Hid (Below w.heap.size w w'))
  case first =>
    refine regionL (fun W => Below w1.heap.size w1 W) [7] (by kernel_rfl) (Below.refl _ _).drew (fun hHeld => ?_)
    refine takeA (i := 0) (v := .agg (ints G).toArray) 4 rfl rfl (by kernel_rfl) (by kernel_rfl) (by kernel_rfl) (by kernel_rfl) (fun _ _ _ h => h) (yieldsIf_load_mid (by rfl) 42 _ rfl w.heap.size 0 rfl (ints G) _ HGW.out HU rfl (by rw [HL.out]; exact Try.sizeGrid)) hHeld ?_
    simp only [Act.put, List.setIfInBounds_toArray, List.set_cons_zero, List.set_cons_succ]
    refine takeA (i := 1) (v := .agg (ints G).toArray) 5 rfl rfl (by kernel_rfl) (by kernel_rfl) (by kernel_rfl) (by kernel_rfl) (fun _ _ _ h => h) (yieldsIf_load_mid (by rfl) 42 _ rfl w.heap.size 0 rfl (ints G) _ HGW.out HU rfl (by rw [HL.out]; exact Try.sizeGrid)) hHeld ?_
    simp only [Act.put, List.setIfInBounds_toArray, List.set_cons_zero, List.set_cons_succ]
    refine takeA (i := 2) (v := .pointer (some ⟨w.heap.size, 66, none⟩)) 6 rfl rfl (by kernel_rfl) (by kernel_rfl) (by kernel_rfl) (by kernel_rfl) (fun _ _ _ h => h) (Or.inl ⟨by rfl, by intro W hSw; go_simp⟩) hHeld ?_
    simp only [Act.put, List.setIfInBounds_toArray, List.set_cons_zero, List.set_cons_succ]
    refine takeA (i := 3) (v := .int .i64 act) 7 rfl rfl (by kernel_rfl) (by kernel_rfl) (by kernel_rfl) (by kernel_rfl) (fun _ _ _ h => h) (Or.inl ⟨by rfl, by intro W hSw; have c1 := HGa.out _ hSw; go_simp⟩) hHeld ?_
    simp only [Act.put, List.setIfInBounds_toArray, List.set_cons_zero, List.set_cons_succ]
    generalize w1.drew = wd at hHeld ⊢
    refine twoL (i := 4) (j := 6) (by kernel_rfl) rfl rfl (by rfl) (by rfl) (fun K hK => ?_) (fun K hK => ?_)
    · skip
      go_simp
      refine (KR1.out _).mono ?_
      rintro e w101 ⟨rfl, hb101⟩
      have t101 : Below w1.heap.size w1 w101 := hHeld.trans (hb101.mono hHeld.size)
      clear hb101
      refine hK.out _ _ (fun _ => t101) (fun hHeld => ?_)
      clear hHeld hK K
      try simp only [Act.put, List.setIfInBounds_toArray, List.set_cons_zero, List.set_cons_succ]
      refine twoL (i := 5) (j := 6) (by kernel_rfl) rfl rfl (by rfl) (by rfl) (fun K hK => ?_) (fun K hK => ?_)
      · skip
        go_simp
        refine (KR2.out _).mono ?_
        rintro e w102 ⟨rfl, hb102⟩
        have t102 : Below w1.heap.size w1 w102 := t101.trans (hb102.mono t101.size)
        clear hb102
        refine hK.out _ _ (fun _ => t102) (fun hHeld => ?_)
        clear hHeld hK K
        try simp only [Act.put, List.setIfInBounds_toArray, List.set_cons_zero, List.set_cons_succ]
        refine onlyL (i := 6) (by kernel_rfl) rfl (by rfl) (fun K hK => ?_)
        refine wp_allocM 42 3 rfl rfl (ints Z0) HAL0.out ?_
        have Z103 := Lib.hid (Cm.new (w := w102) (T := 42) (cs := ints Z0) rfl)
        have t103 : Below w1.heap.size w1 (w102.alloc (.cells (ints Z0).toArray 42)) := t102.alloc t102.size _
        have hs103 := t102.size
        generalize w102.alloc (.cells (ints Z0).toArray 42) = w103 at *
        refine hK.out _ _ (fun _ => t103) (fun hHeld => ?_)
        clear hHeld hK K
        try simp only [Act.put, List.setIfInBounds_toArray, List.set_cons_zero, List.set_cons_succ]
        have C7 := Lib.hid (C1.out.all t103)
        have R7 := Lib.hid (R1.out.all t103)
        have B7 := Lib.hid (B1.out.trans (t103.mono B1.out.size))
        refine onlyL (i := 7) (by kernel_rfl) rfl (by rfl) (fun K hK => ?_)
        refine wp_storeM 42 (.tmp 3) (.tmp 9) rfl rfl w102.heap.size 0 rfl (ints G2) rfl 42 _ Z103.out (by rw [HL2.out, HLZ.out]; exact Nat.le_refl _) (by rw [HL2.out]; exact Try.sizeGrid) HO2.out ?_
        intro y1 hc1 ha1
        rw [lay'_all (by rw [HL2.out, HLZ.out])] at hc1
        have Z8 := Lib.hid hc1
        have C8 := Lib.hid (ha1.cm C7.out (by omega))
        have R8 := Lib.hid (ha1.cm R7.out (by omega))
        have B8 : Hid (Below w.heap.size w y1) := Lib.hid (B7.out.trans (ha1.below (by omega)))
        refine hK.out _ _ (fun h => absurd (by decide) h) (fun _ => ?_)
        clear hK K
        refine doneL (by kernel_rfl) ?_ _
        go_wp2_with fail
        go_meet
        case rel => exact ⟨_, rfl, by omega, Z8, C8, R8, B8⟩
      · skip
        refine wp_allocM 42 3 rfl rfl (ints Z0) HAL0.out ?_
        have Z104 := Lib.hid (Cm.new (w := w101) (T := 42) (cs := ints Z0) rfl)
        have t104 : Below w1.heap.size w1 (w101.alloc (.cells (ints Z0).toArray 42)) := t101.alloc t101.size _
        have hs104 := t101.size
        generalize w101.alloc (.cells (ints Z0).toArray 42) = w104 at *
        refine hK.out _ _ (fun _ => t104) (fun hHeld => ?_)
        clear hHeld hK K
        try simp only [Act.put, List.setIfInBounds_toArray, List.set_cons_zero, List.set_cons_succ]
        refine onlyL (i := 5) (by kernel_rfl) rfl (by rfl) (fun K hK => ?_)
        go_simp
        refine (KR2.out _).mono ?_
        rintro e w105 ⟨rfl, hb105⟩
        have t105 : Below w1.heap.size w1 w105 := t104.trans (hb105.mono t104.size)
        have Z105 := Lib.hid (Z104.out.all hb105)
        clear hb105
        refine hK.out _ _ (fun _ => t105) (fun hHeld => ?_)
        clear hHeld hK K
        try simp only [Act.put, List.setIfInBounds_toArray, List.set_cons_zero, List.set_cons_succ]
        have C7 := Lib.hid (C1.out.all t105)
        have R7 := Lib.hid (R1.out.all t105)
        have B7 := Lib.hid (B1.out.trans (t105.mono B1.out.size))
        refine onlyL (i := 7) (by kernel_rfl) rfl (by rfl) (fun K hK => ?_)
        refine wp_storeM 42 (.tmp 3) (.tmp 9) rfl rfl w101.heap.size 0 rfl (ints G2) rfl 42 _ Z105.out (by rw [HL2.out, HLZ.out]; exact Nat.le_refl _) (by rw [HL2.out]; exact Try.sizeGrid) HO2.out ?_
        intro y1 hc1 ha1
        rw [lay'_all (by rw [HL2.out, HLZ.out])] at hc1
        have Z8 := Lib.hid hc1
        have C8 := Lib.hid (ha1.cm C7.out (by omega))
        have R8 := Lib.hid (ha1.cm R7.out (by omega))
        have B8 : Hid (Below w.heap.size w y1) := Lib.hid (B7.out.trans (ha1.below (by omega)))
        refine hK.out _ _ (fun h => absurd (by decide) h) (fun _ => ?_)
        clear hK K
        refine doneL (by kernel_rfl) ?_ _
        go_wp2_with fail
        go_meet
        case rel => exact ⟨_, rfl, by omega, Z8, C8, R8, B8⟩
    · skip
      refine wp_allocM 42 3 rfl rfl (ints Z0) HAL0.out ?_
      have Z106 := Lib.hid (Cm.new (w := wd) (T := 42) (cs := ints Z0) rfl)
      have t106 : Below w1.heap.size w1 (wd.alloc (.cells (ints Z0).toArray 42)) := hHeld.alloc hHeld.size _
      have hs106 := hHeld.size
      generalize wd.alloc (.cells (ints Z0).toArray 42) = w106 at *
      refine hK.out _ _ (fun _ => t106) (fun hHeld => ?_)
      clear hHeld hK K
      try simp only [Act.put, List.setIfInBounds_toArray, List.set_cons_zero, List.set_cons_succ]
      refine onlyL (i := 4) (by kernel_rfl) rfl (by rfl) (fun K hK => ?_)
      go_simp
      refine (KR1.out _).mono ?_
      rintro e w107 ⟨rfl, hb107⟩
      have t107 : Below w1.heap.size w1 w107 := t106.trans (hb107.mono t106.size)
      have Z107 := Lib.hid (Z106.out.all hb107)
      clear hb107
      refine hK.out _ _ (fun _ => t107) (fun hHeld => ?_)
      clear hHeld hK K
      try simp only [Act.put, List.setIfInBounds_toArray, List.set_cons_zero, List.set_cons_succ]
      refine onlyL (i := 5) (by kernel_rfl) rfl (by rfl) (fun K hK => ?_)
      go_simp
      refine (KR2.out _).mono ?_
      rintro e w108 ⟨rfl, hb108⟩
      have t108 : Below w1.heap.size w1 w108 := t107.trans (hb108.mono t107.size)
      have Z108 := Lib.hid (Z107.out.all hb108)
      clear hb108
      refine hK.out _ _ (fun _ => t108) (fun hHeld => ?_)
      clear hHeld hK K
      try simp only [Act.put, List.setIfInBounds_toArray, List.set_cons_zero, List.set_cons_succ]
      have C7 := Lib.hid (C1.out.all t108)
      have R7 := Lib.hid (R1.out.all t108)
      have B7 := Lib.hid (B1.out.trans (t108.mono B1.out.size))
      refine onlyL (i := 7) (by kernel_rfl) rfl (by rfl) (fun K hK => ?_)
      refine wp_storeM 42 (.tmp 3) (.tmp 9) rfl rfl wd.heap.size 0 rfl (ints G2) rfl 42 _ Z108.out (by rw [HL2.out, HLZ.out]; exact Nat.le_refl _) (by rw [HL2.out]; exact Try.sizeGrid) HO2.out ?_
      intro y1 hc1 ha1
      rw [lay'_all (by rw [HL2.out, HLZ.out])] at hc1
      have Z8 := Lib.hid hc1
      have C8 := Lib.hid (ha1.cm C7.out (by omega))
      have R8 := Lib.hid (ha1.cm R7.out (by omega))
      have B8 : Hid (Below w.heap.size w y1) := Lib.hid (B7.out.trans (ha1.below (by omega)))
      refine hK.out _ _ (fun h => absurd (by decide) h) (fun _ => ?_)
      clear hK K
      refine doneL (by kernel_rfl) ?_ _
      go_wp2_with fail
      go_meet
      case rel => exact ⟨_, rfl, by omega, Z8, C8, R8, B8⟩
  case rest =>
    clear C1 R1 B1 HGW HGa lt1
    obtain ⟨b3, rfl, lt3, Z8, C8, R8, B8⟩ := hcut
    have HZW : Hid (∀ W, Below wc.heap.size wc W → W.rangeAt b3 0 (ints G2)) := Lib.hid (fun W hW => (Z8.out.all hW).whole)
    rename_i Qz Kz hKz
    refine hKz _ _ ?_
    go_wp2
    refine regionL (fun W => Below wc.heap.size wc W) [4] (by kernel_rfl) (Below.refl _ _).drew (fun hHeld => ?_)
    refine takeA (i := 0) (v := .agg (ints G2).toArray) 10 rfl rfl (by kernel_rfl) (by kernel_rfl) (by kernel_rfl) (by kernel_rfl) (fun _ _ _ h => h) (yieldsIf_load_mid (by rfl) 42 _ rfl b3 0 rfl (ints G2) _ HZW.out HU rfl (by rw [HL2.out]; exact Try.sizeGrid)) hHeld ?_
    simp only [Act.put, List.setIfInBounds_toArray, List.set_cons_zero, List.set_cons_succ]
    refine takeA (i := 1) (v := .agg (ints G2).toArray) 11 rfl rfl (by kernel_rfl) (by kernel_rfl) (by kernel_rfl) (by kernel_rfl) (fun _ _ _ h => h) (yieldsIf_load_mid (by rfl) 42 _ rfl b3 0 rfl (ints G2) _ HZW.out HU rfl (by rw [HL2.out]; exact Try.sizeGrid)) hHeld ?_
    simp only [Act.put, List.setIfInBounds_toArray, List.set_cons_zero, List.set_cons_succ]
    refine onlyL (i := 2) (by kernel_rfl) rfl (by rfl) (fun K hK => ?_)
    go_simp
    refine (KC.out _).mono ?_
    rintro e w6 ⟨rfl, hb6⟩
    have t6 : Below wc.heap.size wc w6 := hHeld.trans (hb6.mono hHeld.size)
    clear hb6 hHeld
    refine hK.out _ _ (fun _ => t6) (fun hHeld => ?_)
    clear hHeld hK K
    try simp only [Act.put, List.setIfInBounds_toArray, List.set_cons_zero, List.set_cons_succ]
    refine onlyL (i := 3) (by kernel_rfl) rfl (by rfl) (fun K hK => ?_)
    go_simp
    refine (KG.out _).mono ?_
    rintro e w7 ⟨rfl, hb7⟩
    have t7 : Below wc.heap.size wc w7 := t6.trans (hb7.mono t6.size)
    clear hb7 t6
    refine hK.out _ _ (fun _ => t7) (fun hHeld => ?_)
    clear hHeld hK K
    try simp only [Act.put, List.setIfInBounds_toArray, List.set_cons_zero, List.set_cons_succ]
    have R9 := Lib.hid (R8.out.all t7)
    have B9 := Lib.hid (B8.out.trans (t7.mono B8.out.size))
    clear t7 R8 B8 C8 Z8 HZW
    refine onlyL (i := 4) (by kernel_rfl) rfl (by rfl) (fun K hK => ?_)
    refine wp_storeM 42 (.tmp 2) (.tmp 13) rfl rfl (w.heap.size + 1) 0 rfl (ints G3) rfl 42 _ R9.out (by rw [HL3.out, HLZ.out]; exact Nat.le_refl _) (by rw [HL3.out]; exact Try.sizeGrid) HO3.out ?_
    intro w8 hc8 ha8
    rw [lay'_all (by rw [HL3.out, HLZ.out])] at hc8
    have R10 := Lib.hid hc8
    have B10 : Hid (Below w.heap.size w w8) := Lib.hid (B9.out.trans (ha8.below (by omega)))
    clear hc8 ha8
    refine hK.out _ _ (fun h => absurd (by decide) h) (fun _ => ?_)
    clear hK K
    refine doneL (by kernel_rfl) ?_ _
    go_wp2_with fail
    refine bodyPost_ret (results_mid1 Try.results17 _ _ (w.heap.size + 1) (ints G3) _ rfl R10.out.whole Try.underlying42 rfl (by rw [HL3.out]; exact Try.sizeGrid)) rfl ?_
    exact ⟨rfl, B10.out⟩
end Go.Proofs.Ytodjohdbngbpaab
