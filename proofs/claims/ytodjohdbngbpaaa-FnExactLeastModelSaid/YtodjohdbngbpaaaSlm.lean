/-
  spec.LeastModel. No condition but the reading.
-/
import Derived.Test.YtodjohdbngbpaaaZSpc
import Derived.Test.YtodjohdbngbpaaaZSem
import Derived.Test.YtodjohdbngbpaaaRsp
import Derived.Test.YtodjohdbngbpaaaMgd
import Derived.Test.YtodjohdbngbpaaaTou
import Derived.Deep.DeepCutAuto
namespace Go.Proofs.Ytodjohdbngbpaaa
open Go.RowKit Go.WideShapes
open Go Go.Deep
set_option linter.unusedSimpArgs false

theorem at_keepsL {b lo hi : Nat} {w w' : World} (h : At b w w') (hb : hi ≤ b ∨ b < lo) : Keeps lo hi w w' := ⟨Nat.le_of_eq h.size.symm, fun q h1 h2 _ => h.block q (by omega)⟩

theorem bv_keep {lo hi : Nat} {w : World} {v : Value} {l : List Bool} (h : Bv lo hi w v l) (h0 : 0 < l.length) : ∃ b o c, v = .slice (some ⟨b, o, none⟩) l.length c ∧ l.length ≤ c ∧ c ≤ maxLen ∧ ∀ W, Below w.heap.size w W → ∀ j, j < l.length → W.cell? ⟨b, o + j, none⟩ = some (.bool (l.getD j false)) := by
  obtain ⟨b, o, c, e, h1, h2, _, _, hlt, hc⟩ := h.cells h0
  exact ⟨b, o, c, e, h1, h2, fun W hW j hj => (hW.cell (p := ⟨b, o + j, none⟩) hlt).trans (hc j hj)⟩
theorem rows_take {f : Nat → List Int} {A j : Nat} (h : j < A) : ((List.range A).map f).take (j + 1) = ((List.range A).map f).take j ++ [f j] := by
  rw [← List.map_take, ← List.map_take, List.take_range, List.take_range, Nat.min_eq_left (by omega), Nat.min_eq_left (by omega), List.range_succ, List.map_append]; rfl
theorem take_snocD {l : List Int} {a : Nat} (h : a < l.length) : l.take (a + 1) = l.take a ++ [l.getD a 0] := by
  rw [List.take_add_one, List.getD_eq_getElem?_getD, List.getElem?_eq_getElem h]; rfl

set_option maxRecDepth 100000 in
set_option maxHeartbeats 64000000 in
theorem specLeast_any (lo hi : Nat) (v : Value) (m : Md) (w : World) (hr : Mv lo hi w v m) :
    Calls Try.prog 27 #[v] w (MdAns2 w (leastR m)) := by
  have KO := Lib.hid (fun W (h : Below w.heap.size w W) => specOk_any lo hi v m W (hr.keeps (Keeps.of_all h)))
  rw [specOk_mdOk] at KO
  have KR := Lib.hid (fun W (h : Below w.heap.size w W) => specReached_any lo hi v m m.actual W (hr.keeps (Keeps.of_all h)))
  unfold IntsAns at KR
  have KX := Lib.hid (fun (hm : mdOk m = true) lo2 hi2 v2 W (h : Below w.heap.size w W) (h2 : Iv lo2 hi2 W v2 (nums (reachSet m))) => specRestr_any lo hi lo2 hi2 v v2 m (reachSet m) W (hr.keeps (Keeps.of_all h)) h2 hm (fun k hk => reachSet_in hm (List.getElem_mem hk)) (lst_nodup _ _) (lst_len _ _))
  have HR : Hid (leastR m = if mdOk m then some (leastOf (restM m (reachSet m))) else none) := Lib.hid rfl
  generalize leastR m = R at *
  obtain ⟨fv, bv, rfl, hf, hb⟩ := hr
  clear hf hb
  cases hm : mdOk m with
  | false =>
    have HR' : Hid (R = none) := Lib.hid (by rw [HR.out, hm]; rfl)
    rw [hm] at KO
    clear KR KX HR hm
    go_enter Try.func27, Try.ntmps27
    go_wp2_with fail
    refine (KO.out _ (by go_grown)).mono ?_
    rintro e w1 ⟨rfl, hb1⟩
    have M1 := Lib.hid (Mcell.below (b := w.heap.size + 1) (Mcell.new (by simp)) hb1)
    have B1 : Hid (Below w.heap.size w w1) := Lib.hid (Below.trans (by go_grown) (hb1.mono (by simp; omega)))
    clear hb1
    obtain ⟨mc0, mc1, mc2, mc3, mc4, mc5⟩ := M1.out
    go_wp2
    clear mc0 mc1 mc2 mc3 mc4 mc5
    have M6 := M1.out.write (.slice none 0 0) (.slice none 0 0) 0
    refine bodyPost_ret (results_mid2 Try.results27 _ _ (w.heap.size + 1) _ _ (.bool false) rfl rfl M6.range Try.underlying27 rfl Try.sizeMd) rfl ?_
    rw [HR'.out]
    exact ⟨_, rfl, Mo.none _ _ _, ((B1.out.setCell (by show _ ≤ w.heap.size + 1; omega) _).setCell (by show _ ≤ w.heap.size + 1; omega) _).setCell (by show _ ≤ w.heap.size + 1; omega) _⟩
  | true =>
    obtain ⟨p1, p2, p3, p4, p5, p6, p7, p8⟩ := mdOk_parts hm
    have hRR : reachR m m.actual = nums (reachSet m) := by
      obtain ⟨act, hact⟩ := Int.eq_ofNat_of_zero_le p7
      have hin : inB (act : Int) m.facts.length = true := by unfold inB; simp; omega
      unfold reachR reachSet
      rw [hact, hm, hin]; rfl
    rw [hRR] at KR
    have KX := Lib.hid (KX.out hm)
    unfold MdAns at KX
    have hR := reach_ok hm
    have HR' : Hid (R = some (leastOf (restM m (reachSet m)))) := Lib.hid (by rw [HR.out, hm]; rfl)
    rw [hm] at KO
    clear hRR HR p1 p2 p3 p4 p5 p6 p7 p8 hm
    generalize restM m (reachSet m) = RM at *
    generalize nums (reachSet m) = RS at *
    have KL := Lib.hid (fun lo hi v W h => specLast_any lo hi v RM W h hR)
    unfold IntsAns at KL
    go_enter Try.func27, Try.ntmps27
    go_wp2_with fail
    refine (KO.out _ (by go_grown)).mono ?_
    rintro e w1 ⟨rfl, hb1⟩
    have M1 := Lib.hid (Mcell.below (b := w.heap.size + 1) (Mcell.new (by simp)) hb1)
    have X1 := Lib.hid (Mcell.below (b := w.heap.size) ((Mcell.new rfl).alloc _) hb1)
    have B1 : Hid (Below w.heap.size w w1) := Lib.hid (Below.trans (by go_grown) (hb1.mono (by simp; omega)))
    have lt1 : w.heap.size + 1 < w1.heap.size := M1.out.lt
    clear hb1
    have HXR : Hid (∀ W, Below w1.heap.size w1 W → Mcell W w.heap.size fv bv m.actual) := Lib.hid (fun W h => X1.out.below h)
    have HRG : Hid (∀ W, Below w1.heap.size w1 W → W.rangeAt w.heap.size 0 [fv, bv, .int .i64 m.actual]) := Lib.hid (fun W h => (X1.out.below h).range)
    have HU : Try.prog.underlying 27 = some _ := Try.underlying27
    go_wp2
    go_cut [4] (fun p4 w' => ∃ b4 qa qc pa pc lo4 hi4, p4 = .pointer (some ⟨b4, 0, none⟩) ∧ w.heap.size + 1 < b4 ∧ Hid (Cm w' b4 27 [.slice qa RM.facts.length qc, .slice pa RM.blocks.length pc, .int .i64 RM.actual]) ∧ Hid (Mv lo4 hi4 w' (.agg #[.slice qa RM.facts.length qc, .slice pa RM.blocks.length pc, .int .i64 RM.actual]) RM) ∧ Hid (Mcell w' (w.heap.size + 1) (.slice none 0 0) (.slice none 0 0) 0) ∧ Hid (Below w.heap.size w w'))
    case first =>
      refine regionL (fun W => Below w1.heap.size w1 W) [7] (by kernel_rfl) (Below.refl _ _).drew (fun hHeld => ?_)
      refine takeA (i := 0) (v := .agg #[fv, bv, .int .i64 m.actual]) 23 rfl rfl (by kernel_rfl) (by kernel_rfl) (by kernel_rfl) (by kernel_rfl) (fun _ _ _ h => h) (yieldsIf_load_mid (by rfl) 27 _ rfl w.heap.size 0 rfl [fv, bv, .int .i64 m.actual] _ HRG.out HU rfl Try.sizeMd) hHeld ?_
      simp only [Act.put, List.setIfInBounds_toArray, List.set_cons_zero, List.set_cons_succ]
      refine takeA (i := 1) (v := .agg #[fv, bv, .int .i64 m.actual]) 24 rfl rfl (by kernel_rfl) (by kernel_rfl) (by kernel_rfl) (by kernel_rfl) (fun _ _ _ h => h) (yieldsIf_load_mid (by rfl) 27 _ rfl w.heap.size 0 rfl [fv, bv, .int .i64 m.actual] _ HRG.out HU rfl Try.sizeMd) hHeld ?_
      simp only [Act.put, List.setIfInBounds_toArray, List.set_cons_zero, List.set_cons_succ]
      refine takeA (i := 2) (v := .pointer (some ⟨w.heap.size, 2, none⟩)) 25 rfl rfl (by kernel_rfl) (by kernel_rfl) (by kernel_rfl) (by kernel_rfl) (fun _ _ _ h => h) (Or.inl ⟨by rfl, by intro W hSw; go_simp⟩) hHeld ?_
      simp only [Act.put, List.setIfInBounds_toArray, List.set_cons_zero, List.set_cons_succ]
      refine takeA (i := 3) (v := .int .i64 m.actual) 26 rfl rfl (by kernel_rfl) (by kernel_rfl) (by kernel_rfl) (by kernel_rfl) (fun _ _ _ h => h) (Or.inl ⟨by rfl, by intro W hSw; obtain ⟨xc0, xc1, xc2, xc3, xc4, xc5⟩ := HXR.out _ hSw; go_simp⟩) hHeld ?_
      simp only [Act.put, List.setIfInBounds_toArray, List.set_cons_zero, List.set_cons_succ]
      generalize w1.drew = wd at hHeld ⊢
      refine twoL (i := 4) (j := 6) (by kernel_rfl) rfl rfl (by rfl) (by rfl) (fun K hK => ?_) (fun K hK => ?_)
      · skip
        go_simp
        refine (KR.out _ (B1.out.trans (hHeld.mono B1.out.size))).mono ?_
        rintro e w101 ⟨vr, rfl, hor, hb101⟩
        have t101 : Below w1.heap.size w1 w101 := hHeld.trans (hb101.mono hHeld.size)
        have I4 := Lib.hid hor.read
        have lz101 : wd.heap.size ≤ w101.heap.size := hb101.size
        clear hor hb101
        refine hK.out _ _ (fun _ => t101) (fun hHeld => ?_)
        clear hHeld hK K
        try simp only [Act.put, List.setIfInBounds_toArray, List.set_cons_zero, List.set_cons_succ]
        refine twoL (i := 5) (j := 6) (by kernel_rfl) rfl rfl (by rfl) (by rfl) (fun K hK => ?_) (fun K hK => ?_)
        · skip
          go_simp
          refine (KX.out _ _ _ _ (B1.out.trans (t101.mono B1.out.size)) I4.out).mono ?_
          rintro e w102 ⟨vm, rfl, hom, hb102⟩
          have t102 : Below w1.heap.size w1 w102 := t101.trans (hb102.mono t101.size)
          obtain ⟨qa, qc, pa, pc, e3⟩ := hom.read.form
          subst e3
          have O7 := Lib.hid hom.read
          have lz102 : w101.heap.size ≤ w102.heap.size := hb102.size
          clear hom hb102
          refine hK.out _ _ (fun _ => t102) (fun hHeld => ?_)
          clear hHeld hK K
          try simp only [Act.put, List.setIfInBounds_toArray, List.set_cons_zero, List.set_cons_succ]
          refine onlyL (i := 6) (by kernel_rfl) rfl (by rfl) (fun K hK => ?_)
          refine wp_allocM 27 4 rfl rfl _ Try.allocMd ?_
          have Z103 := Lib.hid (Cm.new (w := w102) (b := w102.heap.size) (T := 27) (cs := [Value.slice none 0 0, .slice none 0 0, .int .i64 0]) rfl)
          have t103 : Below w1.heap.size w1 (w102.alloc (.cells [Value.slice none 0 0, .slice none 0 0, .int .i64 0].toArray 27)) := t102.alloc t102.size _
          have hs103 := t102.size
          have I4a := Lib.hid (I4.out.keeps (Keeps.of_all ((Below.refl _ _).alloc (Nat.le_refl _) (.cells [Value.slice none 0 0, .slice none 0 0, .int .i64 0].toArray 27))))
          clear I4
          have I4 := I4a
          clear I4a
          have O7a := Lib.hid (O7.out.keeps (Keeps.of_all ((Below.refl _ _).alloc (Nat.le_refl _) (.cells [Value.slice none 0 0, .slice none 0 0, .int .i64 0].toArray 27))))
          clear O7
          have O7 := O7a
          clear O7a
          generalize w102.alloc (.cells [Value.slice none 0 0, .slice none 0 0, .int .i64 0].toArray 27) = w103 at *
          refine hK.out _ _ (fun _ => t103) (fun hHeld => ?_)
          clear hHeld hK K
          try simp only [Act.put, List.setIfInBounds_toArray, List.set_cons_zero, List.set_cons_succ]
          have X7 := Lib.hid (X1.out.below t103)
          have M7 := Lib.hid (M1.out.below t103)
          have B7 := Lib.hid (B1.out.trans (t103.mono B1.out.size))
          refine onlyL (i := 7) (by kernel_rfl) rfl (by rfl) (fun K hK => ?_)
          refine wp_storeM 27 (.tmp 4) (.tmp 28) rfl rfl w102.heap.size 0 rfl [.slice qa RM.facts.length qc, .slice pa RM.blocks.length pc, .int .i64 RM.actual] rfl 27 _ Z103.out (by simp) Try.sizeMd (by simp [Value.oneCell']) ?_
          intro y1 hc1 ha1
          rw [lay'_all (by simp)] at hc1
          have Z8 := Lib.hid hc1
          have M8 := Lib.hid (M7.out.of_block (ha1.block _ (by omega)))
          have B8 : Hid (Below w.heap.size w y1) := Lib.hid (B7.out.trans (ha1.below (by omega)))
          have O8 := Lib.hid (O7.out.keeps (lo := w101.heap.size) (hi := w102.heap.size) (at_keepsL ha1 (.inl (Nat.le_refl _))))
          refine hK.out _ _ (fun h => absurd (by decide) h) (fun _ => ?_)
          clear hK K
          refine doneL (by kernel_rfl) ?_ _
          go_wp2_with fail
          go_meet
          case rel => exact ⟨_, qa, qc, pa, pc, _, _, rfl, by omega, Z8, O8, M8, B8⟩
        · skip
          refine wp_allocM 27 4 rfl rfl _ Try.allocMd ?_
          have Z104 := Lib.hid (Cm.new (w := w101) (b := w101.heap.size) (T := 27) (cs := [Value.slice none 0 0, .slice none 0 0, .int .i64 0]) rfl)
          have t104 : Below w1.heap.size w1 (w101.alloc (.cells [Value.slice none 0 0, .slice none 0 0, .int .i64 0].toArray 27)) := t101.alloc t101.size _
          have hs104 := t101.size
          have I4a := Lib.hid (I4.out.keeps (Keeps.of_all ((Below.refl _ _).alloc (Nat.le_refl _) (.cells [Value.slice none 0 0, .slice none 0 0, .int .i64 0].toArray 27))))
          clear I4
          have I4 := I4a
          clear I4a
          generalize w101.alloc (.cells [Value.slice none 0 0, .slice none 0 0, .int .i64 0].toArray 27) = w104 at *
          refine hK.out _ _ (fun _ => t104) (fun hHeld => ?_)
          clear hHeld hK K
          try simp only [Act.put, List.setIfInBounds_toArray, List.set_cons_zero, List.set_cons_succ]
          refine onlyL (i := 5) (by kernel_rfl) rfl (by rfl) (fun K hK => ?_)
          go_simp
          refine (KX.out _ _ _ _ (B1.out.trans (t104.mono B1.out.size)) I4.out).mono ?_
          rintro e w105 ⟨vm, rfl, hom, hb105⟩
          have t105 : Below w1.heap.size w1 w105 := t104.trans (hb105.mono t104.size)
          obtain ⟨qa, qc, pa, pc, e3⟩ := hom.read.form
          subst e3
          have O7 := Lib.hid hom.read
          have Z105 := Lib.hid (Z104.out.all hb105)
          have zl105 := Z104.out.lt
          have lz105 : w104.heap.size ≤ w105.heap.size := hb105.size
          clear hom hb105
          refine hK.out _ _ (fun _ => t105) (fun hHeld => ?_)
          clear hHeld hK K
          try simp only [Act.put, List.setIfInBounds_toArray, List.set_cons_zero, List.set_cons_succ]
          have X7 := Lib.hid (X1.out.below t105)
          have M7 := Lib.hid (M1.out.below t105)
          have B7 := Lib.hid (B1.out.trans (t105.mono B1.out.size))
          refine onlyL (i := 7) (by kernel_rfl) rfl (by rfl) (fun K hK => ?_)
          refine wp_storeM 27 (.tmp 4) (.tmp 28) rfl rfl w101.heap.size 0 rfl [.slice qa RM.facts.length qc, .slice pa RM.blocks.length pc, .int .i64 RM.actual] rfl 27 _ Z105.out (by simp) Try.sizeMd (by simp [Value.oneCell']) ?_
          intro y1 hc1 ha1
          rw [lay'_all (by simp)] at hc1
          have Z8 := Lib.hid hc1
          have M8 := Lib.hid (M7.out.of_block (ha1.block _ (by omega)))
          have B8 : Hid (Below w.heap.size w y1) := Lib.hid (B7.out.trans (ha1.below (by omega)))
          have O8 := Lib.hid (O7.out.keeps (lo := w104.heap.size) (hi := w105.heap.size) (at_keepsL ha1 (.inr (by omega))))
          refine hK.out _ _ (fun h => absurd (by decide) h) (fun _ => ?_)
          clear hK K
          refine doneL (by kernel_rfl) ?_ _
          go_wp2_with fail
          go_meet
          case rel => exact ⟨_, qa, qc, pa, pc, _, _, rfl, by omega, Z8, O8, M8, B8⟩
      · skip
        refine wp_allocM 27 4 rfl rfl _ Try.allocMd ?_
        have Z106 := Lib.hid (Cm.new (w := wd) (b := wd.heap.size) (T := 27) (cs := [Value.slice none 0 0, .slice none 0 0, .int .i64 0]) rfl)
        have t106 : Below w1.heap.size w1 (wd.alloc (.cells [Value.slice none 0 0, .slice none 0 0, .int .i64 0].toArray 27)) := hHeld.alloc hHeld.size _
        have hs106 := hHeld.size
        generalize wd.alloc (.cells [Value.slice none 0 0, .slice none 0 0, .int .i64 0].toArray 27) = w106 at *
        refine hK.out _ _ (fun _ => t106) (fun hHeld => ?_)
        clear hHeld hK K
        try simp only [Act.put, List.setIfInBounds_toArray, List.set_cons_zero, List.set_cons_succ]
        refine onlyL (i := 4) (by kernel_rfl) rfl (by rfl) (fun K hK => ?_)
        go_simp
        refine (KR.out _ (B1.out.trans (t106.mono B1.out.size))).mono ?_
        rintro e w107 ⟨vr, rfl, hor, hb107⟩
        have t107 : Below w1.heap.size w1 w107 := t106.trans (hb107.mono t106.size)
        have I4 := Lib.hid hor.read
        have Z107 := Lib.hid (Z106.out.all hb107)
        have lz107 : w106.heap.size ≤ w107.heap.size := hb107.size
        clear hor hb107
        refine hK.out _ _ (fun _ => t107) (fun hHeld => ?_)
        clear hHeld hK K
        try simp only [Act.put, List.setIfInBounds_toArray, List.set_cons_zero, List.set_cons_succ]
        refine onlyL (i := 5) (by kernel_rfl) rfl (by rfl) (fun K hK => ?_)
        go_simp
        refine (KX.out _ _ _ _ (B1.out.trans (t107.mono B1.out.size)) I4.out).mono ?_
        rintro e w108 ⟨vm, rfl, hom, hb108⟩
        have t108 : Below w1.heap.size w1 w108 := t107.trans (hb108.mono t107.size)
        obtain ⟨qa, qc, pa, pc, e3⟩ := hom.read.form
        subst e3
        have O7 := Lib.hid hom.read
        have Z108 := Lib.hid (Z107.out.all hb108)
        have zl108 := Z107.out.lt
        have lz108 : w107.heap.size ≤ w108.heap.size := hb108.size
        clear hom hb108
        refine hK.out _ _ (fun _ => t108) (fun hHeld => ?_)
        clear hHeld hK K
        try simp only [Act.put, List.setIfInBounds_toArray, List.set_cons_zero, List.set_cons_succ]
        have X7 := Lib.hid (X1.out.below t108)
        have M7 := Lib.hid (M1.out.below t108)
        have B7 := Lib.hid (B1.out.trans (t108.mono B1.out.size))
        refine onlyL (i := 7) (by kernel_rfl) rfl (by rfl) (fun K hK => ?_)
        refine wp_storeM 27 (.tmp 4) (.tmp 28) rfl rfl wd.heap.size 0 rfl [.slice qa RM.facts.length qc, .slice pa RM.blocks.length pc, .int .i64 RM.actual] rfl 27 _ Z108.out (by simp) Try.sizeMd (by simp [Value.oneCell']) ?_
        intro y1 hc1 ha1
        rw [lay'_all (by simp)] at hc1
        have Z8 := Lib.hid hc1
        have M8 := Lib.hid (M7.out.of_block (ha1.block _ (by omega)))
        have B8 : Hid (Below w.heap.size w y1) := Lib.hid (B7.out.trans (ha1.below (by omega)))
        have O8 := Lib.hid (O7.out.keeps (lo := w107.heap.size) (hi := w108.heap.size) (at_keepsL ha1 (.inr (by omega))))
        refine hK.out _ _ (fun h => absurd (by decide) h) (fun _ => ?_)
        clear hK K
        refine doneL (by kernel_rfl) ?_ _
        go_wp2_with fail
        go_meet
        case rel => exact ⟨_, qa, qc, pa, pc, _, _, rfl, by omega, Z8, O8, M8, B8⟩
    case rest =>
      clear M1 X1 B1 HXR HRG
      obtain ⟨b4, qa, qc, pa, pc, lo4, hi4, rfl, lt4, Z4, O4, M4, B4⟩ := hcut
      have hS := stable_last (m := RM) (mdOk_parts hR).1
      have HLL : Hid ((lastC RM).length = RM.facts.length) := Lib.hid (lastC_len RM)
      obtain ⟨p1, p2, p3, p4, p5, p6, p7, p8⟩ := mdOk_parts hR
      have KLc := Lib.hid (KL.out _ _ _ _ O4.out)
      obtain ⟨fb, fo, fc, bb, bo, bc, e4, f1, f2, b1, b2, hfb, hbb, hF, hB⟩ := mv_open O4.out hR
      cases e4
      unfold maxLen at f2 b2
      have HF := Lib.hid hF
      have HSTP := Lib.hid (fun v (hv : v < RM.facts.length) => cls_step hS.ord (v := v) (by rw [HLL.out]; exact hv))
      have HQ0 : Hid (qAt (lastC RM) 0 = 0) := Lib.hid rfl
      have HLE : Hid (lst (newP (lastC RM)) RM.facts.length = firstsC (lastC RM)) := Lib.hid (by unfold firstsC; rw [HLL.out])
      have HRM := Lib.hid hR
      have HST := Lib.hid hS
      obtain ⟨act, hact⟩ := Int.eq_ofNat_of_zero_le p7
      have hactn : act < RM.facts.length := by omega
      have HACT := Lib.hid hact
      clear hact
      clear hF hB hS p5 p6 hR KL KX KR KO
      have z0 := Z4.out.cell 0
      have z1 := Z4.out.cell 1
      have z2 := Z4.out.cell 2
      simp only [List.getElem?_cons_succ, List.getElem?_cons_zero] at z0 z1 z2
      go_wp2_with fail
      refine KLc.out.mono ?_
      rintro e w5 ⟨vc, rfl, hoc, hb5⟩
      obtain ⟨cb, co, cc, rfl, c1, c2, hcb, hC⟩ := iv_open hoc.read (by rw [HLL.out]; omega)
      rw [HLL.out] at c1 hC ⊢
      unfold maxLen at c2
      have HC := Lib.hid hC
      have T5 := Lib.hid hb5
      have Z5 := Lib.hid (Z4.out.all hb5)
      have M5 := Lib.hid (M4.out.below hb5)
      have O5 := Lib.hid (O4.out.keeps (Keeps.of_all hb5))
      have OC := Lib.hid hoc.read
      rw [HLL.out] at OC
      have B5 := Lib.hid (B4.out.trans (hb5.mono B4.out.size))
      have lt5 : b4 < w5.heap.size := Z5.out.lt
      clear hC hb5 hoc M4 B4 O4 z0 z1 z2
      go_wp2
      clear KLc
      have l6 : World.ownsRow (w5.alloc (.cells #[] 3)) w5.heap.size 3 1 (.slice (some ⟨w5.heap.size, 0, none⟩) 0 0) 0 [] := by
        have h := World.ownsRow_lit (base := w5.heap.size) (e := 3) (size := 1) w5 #[] 0 (Nat.le_refl _) (by decide) rfl
        simpa using h
      have hb6 : Below w5.heap.size w5 (w5.alloc (.cells #[] 3)) := by go_grown
      generalize w5.alloc (.cells #[] 3) = w6 at *
      have L6 := Lib.hid l6
      have T6 := Lib.hid hb6
      clear l6 hb6
      generalize hLd : lastC RM = L at *
      go_loopw [6, 34] (fun sv iv wr => ∃ (k : Nat) (sv' : Value), k ≤ RM.facts.length ∧ iv = .int .i64 k ∧ sv' = sv ∧ Hid (wr.ownsRow w5.heap.size 3 1 sv' (qAt L k) (ints (nums (lst (newP L) k)))) ∧ Hid (Below w5.heap.size w5 wr)) (fun _ iv _ => RM.facts.length - (intOf iv).toNat)
      case atStart => exact ⟨0, _, Nat.zero_le _, rfl, rfl, Lib.hid (by rw [HQ0.out]; exact L6.out), T6⟩
      case round =>
        clear L6 T6
        obtain ⟨k, sv, hk, rfl, rfl, SR, TR⟩ := hrel
        have hk0 : (0 : Int) ≤ (k : Int) := Int.natCast_nonneg _
        have hz7 : w5.heap.size ≤ wr.heap.size := TR.out.size
        by_cases hkn : k < RM.facts.length
        case pos =>
          have hk1 : (k : Int) < (RM.facts.length : Int) := by omega
          obtain ⟨a, e1, ha, hq, hqq, -, -, hcase⟩ := HSTP.out k hkn
          have hqk := qAt_le L k
          have c0 := HC.out _ TR.out k hkn
          rw [e1] at c0
          have hlst := lst_succ (newP L) k
          have hkc : (k : Int) < (cc : Int) := by omega
          obtain ⟨sa, sc, rfl⟩ := own_form SR.out
          have HLB : Hid (∀ q, (Value.slice sa (qAt L k) sc).ownBlock = some q → w5.heap.size ≤ q) := Lib.hid (fun q hq => (SR.out.lt q hq).1)
          rcases hcase with ⟨h0, h1, h2⟩ | ⟨h0, h1, h2⟩
          · rw [h0, if_pos rfl] at hlst
            have HLS := Lib.hid hlst
            have HQ2 := Lib.hid h2
            have d1 : ((a : Int) == (qAt L k : Int)) = true := by rw [h1]; simp
            clear hlst h0 h1 h2 ha hq hqq e1
            generalize qAt L k = q at *
            go_wp2_with (at_builtin; refine wpList_pushL rfl (.tmp 43) (.tmp 45) 24 46 rfl rfl 3 (.int .i64 0) 8 Try.underlying24 Try.infoI rfl w5.heap.size (.int .i64 k) (.slice sa q sc) q (ints (nums (lst (newP L) k))) SR.out rfl wr.heap.size rfl rfl rfl (by unfold maxLen; omega) (by omega) hz7 ?_; intro v7 w7 hown hg; have L7 := Lib.hid hown; have T7 : Hid (Below w5.heap.size w5 w7) := Lib.hid (TR.out.trans (hg.below hz7 HLB.out)); clear hown hg c0)
            go_roundw
            case rel =>
              refine ⟨k + 1, _, by omega, by go_num, rfl, Lib.hid ?_, T7⟩
              rw [HQ2.out, HLS.out, nums_app, ints_app]
              exact L7.out
            case measure => simp [intOf]; omega
          · rw [h0, if_neg (by decide), List.append_nil] at hlst
            have HLS := Lib.hid hlst
            have HQ2 := Lib.hid h2
            have d1 : ((a : Int) == (qAt L k : Int)) = false := by rw [beq_eq_false_iff_ne]; omega
            clear hlst h0 h2 ha hq hqq e1
            go_wp2
            go_roundw
            case rel => exact ⟨k + 1, _, by omega, by go_num, rfl, Lib.hid (by rw [HQ2.out, HLS.out]; exact SR.out), TR⟩
            case measure => simp [intOf]; omega
        case neg =>
          obtain rfl : k = RM.facts.length := by omega
          rw [HLE.out] at SR
          have HQN : Hid (qAt L RM.facts.length = (firstsC L).length) := Lib.hid (by rw [← HLE.out]; rfl)
          rw [HQN.out] at SR
          obtain ⟨w7, hw7⟩ : ∃ y, y = wr := ⟨_, rfl⟩
          subst hw7
          have U7 : Io w5.heap.size w7.heap.size w7 sv (nums (firstsC L)) := by have h := Ro.of_own SR.out; exact h
          have hN1 := firsts_pos HST.out.ord (by rw [HLL.out]; exact p1)
          have hNn := firsts_len L
          rw [HLL.out] at hNn
          obtain ⟨lb, lo, lc, e7, g1, g2, hlb, hLc⟩ := iv_open U7.read (by rw [nums_len]; exact hN1)
          rw [nums_len] at e7 g1 hLc
          cases e7
          unfold maxLen at g2
          have HIN := Lib.hid (fun a (ha : a < (firstsC L).length) => first_in HST.out.ord ha)
          have HLc : Hid (∀ W, Below w7.heap.size w7 W → ∀ j, j < (firstsC L).length → W.cell? ⟨lb, lo + j, none⟩ = some (.int .i64 ((firstsC L).getD j 0 : Nat))) := Lib.hid (fun W hW j hj => by
            rw [hLc W hW j hj, nums_getD hj, List.getD_eq_getElem?_getD, List.getElem?_eq_getElem hj]; rfl)
          have HF7 : Hid (∀ W, Below w7.heap.size w7 W → ∀ j, j < RM.facts.length → W.cell? ⟨fb, fo + j, none⟩ = some (.int .i64 (RM.facts.getD j 0))) := Lib.hid (fun W hW => HF.out W (T5.out.trans ((TR.out.trans (hW.mono hz7)).mono T5.out.size)))
          have HC7 : Hid (∀ W, Below w7.heap.size w7 W → ∀ j, j < RM.facts.length → W.cell? ⟨cb, co + j, none⟩ = some (.int .i64 (L.getD j 0))) := Lib.hid (fun W hW => HC.out W (TR.out.trans (hW.mono hz7)))
          have Z7 := Lib.hid (Z5.out.all TR.out)
          have M7 := Lib.hid (M5.out.below TR.out)
          have O7 := Lib.hid (O5.out.keeps (Keeps.of_all TR.out))
          have OC7 := Lib.hid (OC.out.keeps (Keeps.of_all TR.out))
          have B7 := Lib.hid (B5.out.trans (TR.out.mono B5.out.size))
          have lt7 : b4 < w7.heap.size := Z7.out.lt
          clear SR TR U7 hLc Z5 M5 O5 OC B5 HF HC T5 HSTP HQ0 HLE
          have ca := HC7.out _ (Below.refl _ _) act hactn
          have z2 := Z7.out.cell 2
          simp only [List.getElem?_cons_succ, List.getElem?_cons_zero] at z2
          have ha0 : (0 : Int) ≤ (act : Int) := Int.natCast_nonneg _
          have ha1 : (act : Int) < (RM.facts.length : Int) := by omega
          rw [HACT.out] at z2
          obtain ⟨ca', hca⟩ : ∃ x, x = L.getD act 0 := ⟨_, rfl⟩
          rw [← hca] at ca
          have HCA := Lib.hid hca
          clear hca
          go_wp2
          have d8 : Cm (w7.alloc (.cells #[Value.slice none 0 0, .slice none 0 0, .int .i64 ca'] 27)) w7.heap.size 27 [.slice none 0 0, .slice none 0 0, .int .i64 ca'] := Cm.new rfl
          have hb8 : Below w7.heap.size w7 (w7.alloc (.cells #[Value.slice none 0 0, .slice none 0 0, .int .i64 ca'] 27)) := by go_grown
          generalize w7.alloc (.cells #[Value.slice none 0 0, .slice none 0 0, .int .i64 ca'] 27) = w8 at *
          have D8 := Lib.hid d8
          have T8 := Lib.hid hb8
          have lt8 : w7.heap.size < w8.heap.size := d8.lt
          have HZ : Hid (∀ W, Below w7.heap.size w7 W → W.cell? ⟨b4, 0, none⟩ = some (.slice (some ⟨fb, fo, none⟩) RM.facts.length qc) ∧ W.cell? ⟨b4, 1, none⟩ = some (.slice (some ⟨bb, bo, none⟩) RM.blocks.length pc) ∧ W.cell? ⟨b4, 2, none⟩ = some (.int .i64 RM.actual)) := Lib.hid (fun W hW => by
            have h := Z7.out.all hW
            exact ⟨h.cell 0, h.cell 1, h.cell 2⟩)
          have hN16 : ((firstsC L).length : Int) ≤ 16 := by omega
          have HEQ := Lib.hid (fun j (hj : j < RM.blocks.length) => HST.out.equ hj)
          clear d8 hb8 ca z2 HST
          go_loopw [56] (fun iv wr => ∃ (k : Nat) (fv : Value), k ≤ (firstsC L).length ∧ iv = .int .i64 k ∧ Hid (Cm wr w7.heap.size 27 [fv, .slice none 0 0, .int .i64 ca']) ∧ Hid (wr.ownsRow w8.heap.size 3 1 fv k (ints (pick RM.facts ((firstsC L).take k)))) ∧ Hid (Below w7.heap.size w7 wr) ∧ w8.heap.size ≤ wr.heap.size) (fun iv _ => (firstsC L).length - (intOf iv).toNat)
          case atStart => exact ⟨0, _, Nat.zero_le _, rfl, D8, Lib.hid (World.ownsRow_nil _ _ _ _), T8, Nat.le_refl _⟩
          case round =>
            clear D8 T8
            obtain ⟨k, fv, hk, rfl, DR, FR, BR, hwr⟩ := hrel
            have hk0 : (0 : Int) ≤ (k : Int) := Int.natCast_nonneg _
            by_cases hlt : k < (firstsC L).length
            case pos =>
              have hk1 : (k : Int) < ((firstsC L).length : Int) := by omega
              have c0 := HLc.out _ BR.out k hlt
              have hxn := (HIN.out k hlt).1
              rw [HLL.out] at hxn
              have HPF := Lib.hid (pick_snoc RM.facts hlt)
              rw [show (firstsC L)[k] = (firstsC L).getD k 0 from by rw [List.getD_eq_getElem?_getD, List.getElem?_eq_getElem hlt]; rfl] at HPF
              obtain ⟨x, hx⟩ : ∃ x, x = (firstsC L).getD k 0 := ⟨_, rfl⟩
              rw [← hx] at c0 hxn HPF
              clear hx
              have hx0 : (0 : Int) ≤ (x : Int) := Int.natCast_nonneg _
              have hxl : (x : Int) < (RM.facts.length : Int) := by omega
              have hfc2 : (x : Int) < (qc : Int) := by omega
              have hkl : (k : Int) < (lc : Int) := by omega
              have HB8 : Hid (∀ W, Below w8.heap.size wr W → Below w7.heap.size w7 W) := Lib.hid (fun W hW => BR.out.trans (hW.mono (by omega)))
              have HY : Hid (∀ W, Below w8.heap.size wr W → W.cell? ⟨fb, fo + x, none⟩ = some (.int .i64 (RM.facts.getD x 0))) := Lib.hid (fun W hW => HF7.out W (HB8.out W hW) x hxn)
              obtain ⟨y, hy⟩ : ∃ y, y = RM.facts.getD x 0 := ⟨_, rfl⟩
              rw [← hy] at HY HPF
              clear hy
              have HX0 : Hid (∀ W, Below w8.heap.size wr W → W.cell? ⟨b4, 0, none⟩ = some (.slice (some ⟨fb, fo, none⟩) RM.facts.length qc)) := Lib.hid (fun W hW => (HZ.out W (HB8.out W hW)).1)
              have HD0 : Hid (∀ W, Below w8.heap.size wr W → W.cell? ⟨w7.heap.size, 0, none⟩ = some fv) := Lib.hid (fun W hW => (DR.out.below hW (by omega)).cell 0)
              go_wp2
              clear c0
              refine regionL (fun W => Below w8.heap.size wr W) [10] (by kernel_rfl) (Below.refl _ _).drew (fun hHeld => ?_)
              refine takeA (i := 0) (v := .pointer (some ⟨w7.heap.size, 0, none⟩)) 60 rfl rfl (by kernel_rfl) (by kernel_rfl) (by kernel_rfl) (by kernel_rfl) (fun _ _ _ h => h) (Or.inl ⟨by rfl, by intro W hSw; go_simp⟩) hHeld ?_
              simp only [Act.put, List.setIfInBounds_toArray, List.set_cons_zero, List.set_cons_succ]
              refine takeA (i := 1) (v := fv) 61 rfl rfl (by kernel_rfl) (by kernel_rfl) (by kernel_rfl) (by kernel_rfl) (fun _ _ _ h => h) (Or.inl ⟨by rfl, by intro W hSw; have d1 := HD0.out _ hSw; go_simp⟩) hHeld ?_
              simp only [Act.put, List.setIfInBounds_toArray, List.set_cons_zero, List.set_cons_succ]
              refine takeA (i := 2) (v := .pointer (some ⟨b4, 0, none⟩)) 62 rfl rfl (by kernel_rfl) (by kernel_rfl) (by kernel_rfl) (by kernel_rfl) (fun _ _ _ h => h) (Or.inl ⟨by rfl, by intro W hSw; go_simp⟩) hHeld ?_
              simp only [Act.put, List.setIfInBounds_toArray, List.set_cons_zero, List.set_cons_succ]
              refine takeA (i := 3) (v := .slice (some ⟨fb, fo, none⟩) RM.facts.length qc) 63 rfl rfl (by kernel_rfl) (by kernel_rfl) (by kernel_rfl) (by kernel_rfl) (fun _ _ _ h => h) (Or.inl ⟨by rfl, by intro W hSw; have d1 := HX0.out _ hSw; go_simp⟩) hHeld ?_
              simp only [Act.put, List.setIfInBounds_toArray, List.set_cons_zero, List.set_cons_succ]
              refine takeA (i := 4) (v := .int .i64 x) 64 rfl rfl (by kernel_rfl) (by kernel_rfl) (by kernel_rfl) (by kernel_rfl) (fun _ _ _ h => h) (Or.inl ⟨by rfl, by intro W hSw; go_simp⟩) hHeld ?_
              simp only [Act.put, List.setIfInBounds_toArray, List.set_cons_zero, List.set_cons_succ]
              refine takeA (i := 5) (v := .pointer (some ⟨fb, fo + x, none⟩)) 65 rfl rfl (by kernel_rfl) (by kernel_rfl) (by kernel_rfl) (by kernel_rfl) (fun _ _ _ h => h) (Or.inl ⟨by rfl, by intro W hSw; go_simp⟩) hHeld ?_
              simp only [Act.put, List.setIfInBounds_toArray, List.set_cons_zero, List.set_cons_succ]
              refine takeA (i := 6) (v := .int .i64 y) 66 rfl rfl (by kernel_rfl) (by kernel_rfl) (by kernel_rfl) (by kernel_rfl) (fun _ _ _ h => h) (Or.inl ⟨by rfl, by intro W hSw; have d1 := HY.out _ hSw; go_simp⟩) hHeld ?_
              simp only [Act.put, List.setIfInBounds_toArray, List.set_cons_zero, List.set_cons_succ]
              refine onlyL (i := 7) (by kernel_rfl) rfl (by rfl) (fun K hK => ?_)
              have hsd : wr.drew.heap.size ≤ wr.heap.size := Nat.le_refl _
              have hsd' : wr.heap.size ≤ wr.drew.heap.size := Nat.le_refl _
              have FD : Hid (wr.drew.ownsRow w8.heap.size 3 1 fv k (ints (pick RM.facts ((firstsC L).take k)))) := FR
              generalize hwd : wr.drew = wd at *
              have HWD := Lib.hid hwd
              clear hwd
              go_simp
              refine hK.out _ _ (fun _ => hHeld.alloc (by omega) _) (fun _ => ?_)
              clear hK K
              try simp only [Act.put, List.setIfInBounds_toArray, List.set_cons_zero, List.set_cons_succ]
              refine onlyL (i := 8) (by kernel_rfl) rfl (by rfl) (fun K hK => ?_)
              refine wp_pushL (.tmp 61) (.tmp 67) 24 68 rfl rfl 3 (.int .i64 0) 8 Try.underlying24 Try.infoI rfl w8.heap.size (.int .i64 y) fv k _ FD.out rfl wd.heap.size rfl rfl rfl (by unfold maxLen; omega) (by omega) (by omega) ?_
              intro v5 w9 hown5 hg5
              have hfb : ∀ q, fv.ownBlock = some q → w8.heap.size ≤ q := fun q hq => (FR.out.lt q hq).1
              have t5 : Below w8.heap.size wr w9 := hHeld.trans (hg5.below (by omega) hfb)
              have F5 := Lib.hid hown5
              have D5 := Lib.hid (DR.out.below t5 (by omega))
              have B5 : Hid (Below w7.heap.size w7 w9) := Lib.hid (BR.out.trans (t5.mono (by omega)))
              have hs5 : wr.heap.size ≤ w9.heap.size := t5.size
              obtain ⟨v5a, v5c, e5⟩ := own_form hown5
              clear hown5 hg5 hfb hHeld
              refine hK.out _ _ (fun _ => t5) (fun hHeld => ?_)
              have hHeld := hHeld (by decide)
              clear hK K t5 FD FR DR BR
              try simp only [Act.put, List.setIfInBounds_toArray, List.set_cons_zero, List.set_cons_succ]
              refine takeA (i := 9) (v := .pointer (some ⟨w7.heap.size, 0, none⟩)) 69 rfl rfl (by kernel_rfl) (by kernel_rfl) (by kernel_rfl) (by kernel_rfl) (fun _ _ _ h => h) (Or.inl ⟨by rfl, by intro W hSw; go_simp⟩) hHeld ?_
              simp only [Act.put, List.setIfInBounds_toArray, List.set_cons_zero, List.set_cons_succ]
              refine onlyL (i := 10) (by kernel_rfl) rfl (by rfl) (fun K hK => ?_)
              have d5 := D5.out.cell 0
              have f5 := D5.out.frozen 0
              simp only [List.getElem?_cons_zero] at d5
              subst e5
              go_simp
              refine hK.out _ _ (fun h => absurd (by decide) h) (fun _ => ?_)
              clear hK K hHeld d5 f5
              refine doneL (by kernel_rfl) ?_ _
              have D6 := Lib.hid (D5.out.set 0 (.slice v5a (k + 1) v5c))
              have B6 : Hid (Below w7.heap.size w7 (w9.setCell ⟨w7.heap.size, 0, none⟩ (.slice v5a (k + 1) v5c))) := Lib.hid (B5.out.setCell (by show _ ≤ w7.heap.size; omega) _)
              have F6 : Hid ((w9.setCell ⟨w7.heap.size, 0, none⟩ (.slice v5a (k + 1) v5c)).ownsRow w8.heap.size 3 1 (.slice v5a (k + 1) v5c) (k + 1) (ints (pick RM.facts ((firstsC L).take (k + 1))))) := Lib.hid (by
                rw [HPF.out, ints_app]
                exact own_keeps F5.out (fun q hq => (Keeps.setCell (lo := w8.heap.size) (hi := w9.heap.size) w9 w7.heap.size 0 _ (.inl (by omega))).block q (F5.out.lt q hq).1 (F5.out.lt q hq).2 (F5.out.lt q hq).2))
              have hs6 : wr.heap.size ≤ (w9.setCell ⟨w7.heap.size, 0, none⟩ (.slice v5a (k + 1) v5c)).heap.size := by simp [World.setCell]; omega
              simp only [List.set_cons_zero] at D6
              clear D5 B5 F5 HD0 HX0 HY
              generalize w9.setCell ⟨w7.heap.size, 0, none⟩ (.slice v5a (k + 1) v5c) = w10 at *
              go_wp2
              go_roundw
              case rel => exact ⟨k + 1, _, by omega, by go_num, D6, F6, B6, by omega⟩
              case measure => simp [intOf]; omega
            case neg =>
              obtain rfl : k = (firstsC L).length := by omega
              have HK : Hid ((firstsC L).take (firstsC L).length = firstsC L) := Lib.hid (List.take_of_length_le (Nat.le_refl _))
              rw [HK.out] at FR
              obtain ⟨w9, hw9⟩ : ∃ y, y = wr := ⟨_, rfl⟩
              subst hw9
              have I9 : Hid (Io w8.heap.size w9.heap.size w9 fv (pick RM.facts (firstsC L))) := Lib.hid (Ro.of_own FR.out)
              obtain ⟨v5a, v5c, e5⟩ := own_form FR.out
              subst e5
              obtain ⟨z0, z1, z2⟩ := HZ.out _ BR.out
              have D9 := Lib.hid DR.out
              have T9 := Lib.hid BR.out
              clear FR DR BR HK HF7
              go_wp2
              clear z0 z1 z2
              have hrow : inRow RM L := hLd ▸ clsAt_row _
              have KS := Lib.hid (fun W (h : Below w7.heap.size w7 W) j (hj : j < RM.blocks.length) x (hx : x < RM.facts.length) => specSet_any lo4 hi4 _ _ _ _ RM L j x W (O7.out.keeps (Keeps.of_all h)) HRM.out (OC7.out.keeps (Keeps.of_all h)) hrow hj hx)
              unfold BoolsAns at KS
              clear hrow
              go_loopw [74] (fun iv wr => ∃ (j : Nat) (bv : Value) (vs : List Value), j ≤ RM.blocks.length ∧ iv = .int .i64 j ∧ Hid (Cm wr w7.heap.size 27 [.slice v5a (firstsC L).length v5c, bv, .int .i64 ca']) ∧ Hid (Ioo w9.heap.size wr.heap.size wr bv vs (((List.range RM.blocks.length).map fun k => num (linkL RM L k)).take j)) ∧ Hid (Io w8.heap.size w9.heap.size wr (.slice v5a (firstsC L).length v5c) (pick RM.facts (firstsC L))) ∧ Hid (Below w7.heap.size w7 wr) ∧ w9.heap.size ≤ wr.heap.size) (fun iv _ => RM.blocks.length - (intOf iv).toNat)
              case atStart => exact ⟨0, _, [], Nat.zero_le _, rfl, D9, Lib.hid ⟨Ro.nil _ _ _ _, ⟨rfl, fun j hj => by simp at hj⟩, List.pairwise_singleton _ _⟩, I9, T9, Nat.le_refl _⟩
              case round =>
                clear D9 I9 T9
                obtain ⟨j, bv, vs, hj, rfl, DR, OR, IR, BR, hwr2⟩ := hrel
                have hj0 : (0 : Int) ≤ (j : Int) := Int.natCast_nonneg _
                by_cases hlj : j < RM.blocks.length
                case pos =>
                  have hj1 : (j : Int) < (RM.blocks.length : Int) := by omega
                  have HTK := Lib.hid (rows_take (f := fun k => num (linkL RM L k)) hlj)
                  have hvl : vs.length = j := by rw [OR.out.2.1.1, List.length_take, List.length_map, List.length_range]; omega
                  have HEQj := Lib.hid (HEQ.out j hlj)
                  have KSj := Lib.hid (fun W h x hx => KS.out W h j hlj x hx)
                  go_wp2
                  have l6 : World.ownsRow (wr.alloc (.cells #[] 3)) wr.heap.size 3 1 (.slice (some ⟨wr.heap.size, 0, none⟩) 0 0) 0 [] := by
                    have h := World.ownsRow_lit (base := wr.heap.size) (e := 3) (size := 1) wr #[] 0 (Nat.le_refl _) (by decide) rfl
                    simpa using h
                  have hb6 : Below wr.heap.size wr (wr.alloc (.cells #[] 3)) := by go_grown
                  obtain ⟨wq, hwq⟩ : ∃ y, y = wr := ⟨_, rfl⟩
                  subst hwq
                  generalize wq.alloc (.cells #[] 3) = w10 at *
                  have L10 := Lib.hid l6
                  have T10 := Lib.hid hb6
                  clear l6 hb6
                  go_loopw [13, 80] (fun lv iv wr => ∃ (a : Nat) (lv' : Value), a ≤ (firstsC L).length ∧ iv = .int .i64 a ∧ lv' = lv ∧ Hid (wr.ownsRow wq.heap.size 3 1 lv' a (ints ((linkL RM L j).take a))) ∧ Hid (Below wq.heap.size wq wr)) (fun _ iv _ => (firstsC L).length - (intOf iv).toNat)
                  case atStart => exact ⟨0, _, Nat.zero_le _, rfl, rfl, L10, T10⟩
                  case round =>
                    clear L10 T10
                    obtain ⟨a, lv, ha, rfl, rfl, LR, TR⟩ := hrel
                    have hwq2 : wq.heap.size ≤ wr.heap.size := TR.out.size
                    have BW : Hid (Below w7.heap.size w7 wr) := Lib.hid (BR.out.trans (TR.out.mono BR.out.size))
                    have ha0 : (0 : Int) ≤ (a : Int) := Int.natCast_nonneg _
                    by_cases hlt : a < (firstsC L).length
                    case pos =>
                      have ha1 : (a : Int) < ((firstsC L).length : Int) := by omega
                      have hal : (a : Int) < (lc : Int) := by omega
                      have c0 := HLc.out _ BW.out a hlt
                      have hxn := (HIN.out a hlt).1
                      rw [HLL.out] at hxn
                      have KSa := Lib.hid (KSj.out _ BW.out _ hxn)
                      have HLK : Hid (setB RM L j ((firstsC L).getD a 0) = linkC RM L j a) := Lib.hid rfl
                      have hLL : a < (linkL RM L j).length := by rw [linkL_len]; exact hlt
                      have HTL : Hid ((linkL RM L j).take (a + 1) = (linkL RM L j).take a ++ [((minL (linkC RM L j) a : Nat) : Int)]) := Lib.hid (by rw [take_snocD hLL, linkL_get hlt])
                      have HGM : Hid (goB (linkC RM L j a) ((linkL RM L j).take a) (a : Int) a = ((minL (linkC RM L j) a : Nat) : Int)) := Lib.hid (goB_min HEQj.out hlt (fun b hb => by
                        rw [List.getD_eq_getElem?_getD, List.getElem?_take_of_lt hb, ← List.getD_eq_getElem?_getD, linkL_get (by omega)]))
                      have hll : ((linkL RM L j).take a).length = a := by rw [List.length_take]; omega
                      have HLT := Lib.hid hll
                      rw [HLK.out] at KSa
                      obtain ⟨x, hx⟩ : ∃ x, x = (firstsC L).getD a 0 := ⟨_, rfl⟩
                      rw [← hx] at c0 hxn KSa
                      clear hx HLK hLL hll
                      obtain ⟨z0, z1, z2⟩ := HZ.out _ BW.out
                      obtain ⟨va, vc, e6⟩ := own_form LR.out
                      subst e6
                      generalize (linkL RM L j).take a = ll at *
                      generalize linkC RM L j a = lk at *
                      go_wp2_with fail
                      refine KSa.out.mono ?_
                      rintro e w11 ⟨vbs, rfl, hob, hb11⟩
                      obtain ⟨bt, ot, ct, rfl, qt, rt, kt⟩ := bv_keep hob.read (by rw [boolsF_len]; omega)
                      rw [boolsF_len] at qt kt ⊢
                      unfold maxLen at rt
                      have HT : Hid (∀ W, Below w11.heap.size w11 W → ∀ b, b < RM.facts.length → W.cell? ⟨bt, ot + b, none⟩ = some (.bool (lk b))) := Lib.hid (fun W hW b hb => by rw [kt W hW b hb, boolsF_get hb])
                      have L11 := Lib.hid (own_below' LR.out hb11)
                      have T11 : Hid (Below wq.heap.size wq w11) := Lib.hid (TR.out.trans (hb11.mono hwq2))
                      have U11 : Io wq.heap.size w11.heap.size w11 (.slice va a vc) ll := Ro.of_own L11.out
                      have I11 : Iv wq.heap.size w11.heap.size w11 (.slice va a vc) ll := U11.read
                      have HCV := Lib.hid (fun W (hW : Below w11.heap.size w11 W) b (hb : b < a) => Iv.at' I11 hW b (by rw [HLT.out]; exact hb))
                      clear U11 I11
                      clear hob hb11 kt LR TR BW c0 z0 z1 z2 KSa
                      go_wp2
                      go_loopw [16, 18] (fun fv bv wr => ∃ b : Nat, b ≤ a ∧ bv = .int .i64 b ∧ fv = .int .i64 (goB lk ll a b) ∧ Hid (Below w11.heap.size w11 wr)) (fun _ bv _ => a - (intOf bv).toNat)
                      case atStart => exact ⟨0, Nat.zero_le _, rfl, rfl, Lib.hid (Below.refl _ _)⟩
                      case round =>
                        obtain ⟨b, hb, rfl, rfl, TB⟩ := hrel
                        have hb0 : (0 : Int) ≤ (b : Int) := Int.natCast_nonneg _
                        by_cases hba : b < a
                        case pos =>
                          have hb1 : (b : Int) < (a : Int) := by omega
                          have hb2 : (b : Int) < (RM.facts.length : Int) := by omega
                          have HGS : Hid (goB lk ll a (b + 1) = if lk b then ll.getD b 0 else goB lk ll a b) := Lib.hid rfl
                          have ct := HT.out _ TB.out b (by omega)
                          obtain ⟨vb, vo, rfl, cv⟩ := HCV.out _ TB.out b hba
                          generalize lk b = s at HGS ct
                          generalize goB lk ll a b = g at *
                          generalize ll.getD b 0 = y at *
                          cases s with
                          | true =>
                            go_wp2
                            go_roundw
                            case rel => exact ⟨b + 1, by omega, by go_num, by rw [HGS.out]; rfl, TB⟩
                            case measure => simp [intOf]; omega
                          | false =>
                            go_wp2
                            go_roundw
                            case rel => exact ⟨b + 1, by omega, by go_num, by rw [HGS.out]; rfl, TB⟩
                            case measure => simp [intOf]; omega
                        case neg =>
                          obtain rfl : b = a := by omega
                          rw [HGM.out]
                          have L12 := Lib.hid (own_below' L11.out TB.out)
                          have T12 : Hid (Below wq.heap.size wq wr) := Lib.hid (T11.out.trans (TB.out.mono T11.out.size))
                          have HLB : Hid (∀ q, (Value.slice va b vc).ownBlock = some q → wq.heap.size ≤ q) := Lib.hid (fun q hq => (L12.out.lt q hq).1)
                          have hz12 : wq.heap.size ≤ wr.heap.size := T12.out.size
                          clear L11 T11 TB HCV HT HGM
                          generalize ((minL (linkC RM L j) b : Nat) : Int) = y at *
                          go_wp2_with (at_builtin; refine wpList_pushL rfl (.tmp 104) (.tmp 106) 24 107 rfl rfl 3 (.int .i64 0) 8 Try.underlying24 Try.infoI rfl wq.heap.size (.int .i64 y) (.slice va b vc) b (ints ll) L12.out rfl wr.heap.size rfl rfl rfl (by unfold maxLen; omega) (by omega) hz12 ?_; intro v13 w13 hown hg; have L13 := Lib.hid hown; have T13 : Hid (Below wq.heap.size wq w13) := Lib.hid (T12.out.trans (hg.below hz12 HLB.out)); clear hown hg)
                          go_roundw
                          case rel =>
                            refine ⟨b + 1, _, by omega, by go_num, rfl, Lib.hid ?_, T13⟩
                            rw [HTL.out, ints_app]
                            exact L13.out
                          case measure => simp [intOf]; omega
                    case neg =>
                      obtain rfl : a = (firstsC L).length := by omega
                      have HK2 : Hid ((linkL RM L j).take (firstsC L).length = linkL RM L j) := Lib.hid (List.take_of_length_le (by rw [linkL_len]; exact Nat.le_refl _))
                      have U6 : Hid (Io wq.heap.size wr.heap.size wr lv (linkL RM L j)) := Lib.hid (by have h := Ro.of_own LR.out; rw [HK2.out] at h; exact h)
                      have DW := Lib.hid (DR.out.all TR.out)
                      have OW := Lib.hid (OR.out.keeps (Keeps.of_all TR.out))
                      have IW : Hid (Io w8.heap.size w9.heap.size wr (.slice v5a (firstsC L).length v5c) (pick RM.facts (firstsC L))) := Lib.hid (IR.out.keeps (Keeps.of_all TR.out))
                      have HPL : Hid ((linkL RM L j).length ≤ 1048576) := Lib.hid (by rw [linkL_len]; omega)
                      have HDB : Hid (∀ W, Below w9.heap.size wr W → W.cell? ⟨w7.heap.size, 1, none⟩ = some bv) := Lib.hid (fun W hW => (DW.out.below hW (by omega)).cell 1)
                      clear LR DR OR IR BR HK2
                      generalize linkL RM L j = lkl at *
                      go_wp2
                      refine regionL (fun W => Below w9.heap.size wr W) [7] (by kernel_rfl) (Below.refl _ _).drew (fun hHeld => ?_)
                      refine takeA (i := 0) (v := .pointer (some ⟨w7.heap.size, 1, none⟩)) 109 rfl rfl (by kernel_rfl) (by kernel_rfl) (by kernel_rfl) (by kernel_rfl) (fun _ _ _ h => h) (Or.inl ⟨by rfl, by intro W hSw; go_simp⟩) hHeld ?_
                      simp only [Act.put, List.setIfInBounds_toArray, List.set_cons_zero, List.set_cons_succ]
                      refine takeA (i := 1) (v := bv) 110 rfl rfl (by kernel_rfl) (by kernel_rfl) (by kernel_rfl) (by kernel_rfl) (fun _ _ _ h => h) (Or.inl ⟨by rfl, by intro W hSw; have d1 := HDB.out _ hSw; go_simp⟩) hHeld ?_
                      simp only [Act.put, List.setIfInBounds_toArray, List.set_cons_zero, List.set_cons_succ]
                      refine takeA (i := 2) (v := lv) 111 rfl rfl (by kernel_rfl) (by kernel_rfl) (by kernel_rfl) (by kernel_rfl) (fun _ _ _ h => h) (Or.inl ⟨by rfl, by intro W hSw; go_simp⟩) hHeld ?_
                      simp only [Act.put, List.setIfInBounds_toArray, List.set_cons_zero, List.set_cons_succ]
                      refine onlyL (i := 3) (by kernel_rfl) rfl (by rfl) (fun K hK => ?_)
                      have hbd : Below wr.heap.size wr wr.drew := (Below.refl wr.heap.size wr).drew
                      go_simp
                      refine (specNumber_any _ _ _ lkl _ (U6.out.read.keeps (Keeps.of_all hbd)) HPL.out).mono ?_
                      rintro e w15 ⟨v15, rfl, ho15, hb15⟩
                      have t15 : Below wr.heap.size wr w15 := hbd.trans (hb15.mono (Nat.le_refl _))
                      have V15 : Hid (Io wr.heap.size w15.heap.size w15 v15 (num lkl)) := Lib.hid ho15
                      obtain ⟨na, nc, e15⟩ := ho15.form
                      subst e15
                      clear ho15 hb15 hHeld hbd
                      have D15 := Lib.hid (DW.out.all t15)
                      have O15 := Lib.hid (OW.out.keeps (Keeps.of_all t15))
                      have I15 : Hid (Io w8.heap.size w9.heap.size w15 (.slice v5a (firstsC L).length v5c) (pick RM.facts (firstsC L))) := Lib.hid (IW.out.keeps (Keeps.of_all t15))
                      have B15 : Hid (Below w7.heap.size w7 w15) := Lib.hid (BW.out.trans (t15.mono BW.out.size))
                      have T15 := Lib.hid (t15.mono (show w9.heap.size ≤ wr.heap.size by omega))
                      have hs15 : wr.heap.size ≤ w15.heap.size := t15.size
                      refine hK.out _ _ (fun _ => t15.mono (by omega)) (fun _ => ?_)
                      clear hK K t15 DW OW IW BW U6
                      try simp only [Act.put, List.setIfInBounds_toArray, List.set_cons_zero, List.set_cons_succ]
                      refine onlyL (i := 4) (by kernel_rfl) rfl (by rfl) (fun K hK => ?_)
                      go_simp
                      refine hK.out _ _ (fun _ => T15.out.alloc (by omega) _) (fun _ => ?_)
                      clear hK K
                      try simp only [Act.put, List.setIfInBounds_toArray, List.set_cons_zero, List.set_cons_succ]
                      refine onlyL (i := 5) (by kernel_rfl) rfl (by rfl) (fun K hK => ?_)
                      have hown : w15.ownsRow w9.heap.size 24 1 bv vs.length vs := O15.out.1.1
                      refine wp_pushL (.tmp 110) (.tmp 113) 25 114 rfl rfl 24 (.slice none 0 0) 24 Try.underlying25 Try.infoL rfl w9.heap.size (.slice na (num lkl).length nc) bv vs.length vs hown rfl w15.heap.size rfl rfl rfl (by unfold maxLen; omega) (by omega) (by omega) ?_
                      intro v16 w16 hown16 hg16
                      have hbv : ∀ q, bv.ownBlock = some q → w9.heap.size ≤ q ∧ q < wq.heap.size := fun q hq => ⟨(O15.out.1.1.lt q hq).1, O15.out.1.2 q hq⟩
                      have O16 := Lib.hid (Ioo.push O15.out (Ro.wide V15.out hwq2 (Nat.le_refl _)) (Nat.le_refl _) (by omega) hwr2 hown16 hg16)
                      have hne : ∀ q, q < w9.heap.size → bv.ownBlock ≠ some q := fun q hq e => by have := hbv q e; omega
                      have D16 := Lib.hid (D15.out.of_block (hg16.block (by omega) (hne _ (by omega))))
                      have I16 : Hid (Io w8.heap.size w9.heap.size w16 (.slice v5a (firstsC L).length v5c) (pick RM.facts (firstsC L))) := Lib.hid (hg16.ro I15.out (apart_lt (B := w9.heap.size) (fun q hq => I15.out.2 q hq) (fun q hq => (hbv q hq).1)))
                      have t16 : Below w9.heap.size w15 w16 := hg16.below (by omega) (fun q hq => (hbv q hq).1)
                      have B16 : Hid (Below w7.heap.size w7 w16) := Lib.hid (B15.out.trans (t16.mono (by omega)))
                      have hs16 : w15.heap.size ≤ w16.heap.size := t16.size
                      have t17 : Below w9.heap.size wr w16 := T15.out.trans t16
                      obtain ⟨v16a, v16c, e16⟩ := O16.out.1.form
                      rw [show (vs ++ [Value.slice na (num lkl).length nc]).length = j + 1 by simp [hvl]] at e16
                      have d16 := D16.out.cell 1
                      have f16 := D16.out.frozen 1
                      clear hown hown16 hbv hne t16 O15 D15 I15 B15 hg16 T15 V15
                      refine hK.out _ _ (fun _ => t17) (fun hHeld => ?_)
                      have hHeld := hHeld (by decide)
                      clear hK K t17
                      try simp only [Act.put, List.setIfInBounds_toArray, List.set_cons_zero, List.set_cons_succ]
                      refine takeA (i := 6) (v := .pointer (some ⟨w7.heap.size, 1, none⟩)) 115 rfl rfl (by kernel_rfl) (by kernel_rfl) (by kernel_rfl) (by kernel_rfl) (fun _ _ _ h => h) (Or.inl ⟨by rfl, by intro W hSw; go_simp⟩) hHeld ?_
                      simp only [Act.put, List.setIfInBounds_toArray, List.set_cons_zero, List.set_cons_succ]
                      refine onlyL (i := 7) (by kernel_rfl) rfl (by rfl) (fun K hK => ?_)
                      simp only [List.getElem?_cons_succ, List.getElem?_cons_zero] at d16
                      subst e16
                      go_simp
                      refine hK.out _ _ (fun h => absurd (by decide) h) (fun _ => ?_)
                      clear hK K hHeld
                      refine doneL (by kernel_rfl) ?_ _
                      clear d16 f16
                      go_wp2
                      go_roundw
                      case rel =>
                        refine ⟨j + 1, _, vs ++ [.slice na (num lkl).length nc], by omega, by go_num, Lib.hid (D16.out.set 1 _), Lib.hid ?_, Lib.hid (I16.out.keeps (Keeps.setCell _ _ _ _ (.inl (by omega)))), Lib.hid (B16.out.setCell (by show _ ≤ w7.heap.size; omega) _), by simp [World.setCell]; omega⟩
                        rw [HTK.out]
                        exact (O16.out.keeps (Keeps.setCell w16 w7.heap.size 1 (.slice v16a (j + 1) v16c) (.inl (by omega)))).wide (Nat.le_refl _) (Keeps.setCell (lo := 0) (hi := 0) w16 w7.heap.size 1 (.slice v16a (j + 1) v16c) (.inr (Nat.zero_le _))).size
                      case measure => simp [intOf]; omega
                case neg =>
                  have HJ : Hid (((List.range RM.blocks.length).map fun k => num (linkL RM L k)).take j = (List.range RM.blocks.length).map fun k => num (linkL RM L k)) := Lib.hid (List.take_of_length_le (by rw [List.length_map, List.length_range]; omega))
                  have HLO : Hid (leastOf RM = ⟨pick RM.facts (firstsC L), (List.range RM.blocks.length).map fun k => num (linkL RM L k), ca'⟩) := Lib.hid (by
                    rw [HCA.out]
                    unfold leastOf
                    rw [hLd, HACT.out]; rfl)
                  obtain ⟨ba', bc', e5⟩ := OR.out.1.form
                  subst e5
                  have MR := Lib.hid (M7.out.below BR.out)
                  have d0 := DR.out.cell 0
                  have d1 := DR.out.cell 1
                  have d2 := DR.out.cell 2
                  simp only [List.getElem?_cons_succ, List.getElem?_cons_zero] at d0 d1 d2
                  obtain ⟨m0, m1, m2, m3, m4, m5⟩ := MR.out
                  go_wp2
                  clear m0 m1 m2 m3 m4 m5 d0 d1 d2
                  have OR2 := OR.out
                  rw [HJ.out] at OR2
                  have hO : Mo w8.heap.size wr.heap.size wr (.agg #[.slice v5a (firstsC L).length v5c, .slice ba' vs.length bc', .int .i64 ca']) ⟨pick RM.facts (firstsC L), (List.range RM.blocks.length).map fun k => num (linkL RM L k), ca'⟩ := ⟨_, _, vs, rfl, IR.out.wide (Nat.le_refl _) hwr2, OR2.wide (by omega) (Nat.le_refl _), fun u hu => by
                    refine apart_lt (B := w9.heap.size) (fun q hq => IR.out.2 q hq) (fun q hq => ?_)
                    rcases List.mem_cons.1 hu with rfl | hu
                    · exact (OR.out.1.1.lt q hq).1
                    · exact (OR.out.2.1.blk hu q hq).1⟩
                  obtain ⟨o6, b6, m6⟩ := ans_put (w := w) (m := ⟨pick RM.facts (firstsC L), (List.range RM.blocks.length).map fun k => num (linkL RM L k), ca'⟩) MR.out hO (show w.heap.size + 1 < w8.heap.size by omega) (show w.heap.size ≤ w.heap.size + 1 by omega) (Nat.le_refl _) (B7.out.trans (BR.out.mono B7.out.size))
                  refine bodyPost_ret (results_mid2 Try.results27 _ _ (w.heap.size + 1) _ _ (.bool true) rfl rfl m6.range Try.underlying27 rfl Try.sizeMd) rfl ?_
                  rw [HR'.out, HLO.out]
                  exact ⟨_, rfl, o6, b6⟩

end Go.Proofs.Ytodjohdbngbpaaa
