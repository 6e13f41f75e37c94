/-
  spec.IsLeast. No condition but the reading.
-/
import Derived.Test.YtodjohdbngbpaabZSpc
import Derived.Test.YtodjohdbngbpaabZSem
import Derived.Test.YtodjohdbngbpaabZBis
namespace Go.Proofs.Ytodjohdbngbpaab
open Go.RowKit Go.WideShapes
open Go Go.Deep
set_option linter.unusedSimpArgs false

theorem isLeast_all {m : Md} (hm : mdOk m = true) (h : ∀ k, k < m.facts.length → (lastC m).getD k 0 = (k : Int)) : isLeastR m = ((reachSet m).length == m.facts.length) := by
  have : ((List.range m.facts.length).all fun w => (lastC m).getD w 0 == (w : Int)) = true := List.all_eq_true.2 fun w hw => by rw [h w (List.mem_range.1 hw)]; simp
  unfold isLeastR
  rw [hm, this, Bool.true_and, Bool.true_and]
theorem isLeast_not {m : Md} {k : Nat} (hk : k < m.facts.length) (h : (lastC m).getD k 0 ≠ (k : Int)) : isLeastR m = false := by
  have : ((List.range m.facts.length).all fun w => (lastC m).getD w 0 == (w : Int)) = false := List.all_eq_false.2 ⟨k, List.mem_range.2 hk, by simpa using h⟩
  unfold isLeastR
  rw [this, Bool.and_false, Bool.false_and]

set_option maxRecDepth 100000 in
set_option maxHeartbeats 16000000 in
theorem specIsLeast_any (lo hi : Nat) (v : Value) (m : Md) (w : World) (hr : Mv lo hi w v m) :
    Calls Try.prog 5 #[v] w fun e w' => e = .returned (.bool (isLeastR m)) ∧ Below w.heap.size w w' := by
  have KO := Lib.hid (fun W (h : Below w.heap.size w W) => specOk_any lo hi v m W (hr.keeps (Keeps.of_all h)))
  rw [specOk_mdOk] at KO
  have KL := Lib.hid (fun (hm : mdOk m = true) W (h : Below w.heap.size w W) => specLast_any lo hi v m W (hr.keeps (Keeps.of_all h)) hm)
  have KR := Lib.hid (fun W (h : Below w.heap.size w W) => specReached_any lo hi v m m.actual W (hr.keeps (Keeps.of_all h)))
  unfold IntsAns at KR
  cases hm : mdOk m with
  | false =>
    have HA : Hid (isLeastR m = false) := Lib.hid (by unfold isLeastR; rw [hm]; rfl)
    obtain ⟨fv, bv, rfl, hf, hb⟩ := hr
    rw [hm] at KO
    clear KL KR hf hb hm
    go_enter Try.func5, Try.ntmps5
    go_wp2_with fail
    refine (KO.out _ (by go_grown)).mono ?_
    rintro e w1 ⟨rfl, hb1⟩
    have B1 : Hid (Below w.heap.size w w1) := Lib.hid (Below.trans (by go_grown) (hb1.mono (by simp)))
    clear hb1
    go_wp2
    go_ret
    exact ⟨ret_bool HA.out.symm, B1.out⟩
  | true =>
    obtain ⟨p1, p2, p3, p4, p5, p6, p7, p8⟩ := mdOk_parts hm
    obtain ⟨fb, fo, fc, bb, bo, bc, rfl, f1, f2, b1, b2, hfb, hbb, hF, hB⟩ := mv_open hr hm
    unfold maxLen at f2 b2
    have HALL := Lib.hid (isLeast_all hm)
    have HNOT := Lib.hid (fun k => isLeast_not (m := m) (k := k))
    have HLL : Hid ((lastC m).length = m.facts.length) := Lib.hid (clsAt_len m _)
    have HRL : Hid ((reachR m m.actual).length = (reachSet m).length) := Lib.hid (by
      obtain ⟨act, hact⟩ := Int.eq_ofNat_of_zero_le p7
      have hin : inB (act : Int) m.facts.length = true := by unfold inB; simp; omega
      have h : reachR m m.actual = nums (lst (reachB m.blocks m.facts.length m.blocks.length act) 16) := by
        unfold reachR
        rw [hact, hm, hin]; rfl
      rw [h, nums_len]
      unfold reachSet
      rw [hact]; rfl)
    have hl16 : (reachSet m).length ≤ 16 := lst_len _ _
    rw [hm] at KO
    have KL := Lib.hid (KL.out hm)
    unfold IntsAns at KL
    generalize lastC m = L at *
    generalize reachR m m.actual = RL at *
    generalize (reachSet m).length = q at *
    generalize isLeastR m = ans at *
    clear hF hB hr hm p5 p6
    go_enter Try.func5, Try.ntmps5
    go_wp2_with fail
    refine (KO.out _ (by go_grown)).mono ?_
    rintro e w1 ⟨rfl, hb1⟩
    have X1 := Lib.hid (Mcell.below (b := w.heap.size) (Mcell.new (w := w) (T := 28) (fv := .slice (some ⟨fb, fo, none⟩) m.facts.length fc) (bv := .slice (some ⟨bb, bo, none⟩) m.blocks.length bc) (n := m.actual) rfl) hb1)
    have B1 : Hid (Below w.heap.size w w1) := Lib.hid (Below.trans (by go_grown) (hb1.mono (by simp)))
    have lt1 : w.heap.size < w1.heap.size := X1.out.lt
    clear hb1
    obtain ⟨xc0, xc1, xc2, xc3, xc4, xc5⟩ := X1.out
    go_wp2_with fail
    refine (KL.out _ B1.out).mono ?_
    rintro e w2 ⟨vc, rfl, hoc, hb2⟩
    have X2 := Lib.hid (X1.out.below hb2)
    have B2 := Lib.hid (B1.out.trans (hb2.mono B1.out.size))
    obtain ⟨cb, co, cc, rfl, c1, c2, hcb, hC⟩ := iv_open hoc.read (by rw [HLL.out]; omega)
    rw [HLL.out] at c1 hC ⊢
    unfold maxLen at c2
    have HC := Lib.hid hC
    clear xc0 xc1 xc2 xc3 xc4 xc5 hb2 hoc hC X1 B1
    go_wp2
    go_loopw [11] (fun iv wr => ∃ k : Nat, k ≤ m.facts.length ∧ iv = .int .i64 k ∧ Hid (Below w2.heap.size w2 wr) ∧ Hid (∀ i, i < k → L.getD i 0 = (i : Int))) (fun iv _ => m.facts.length - (intOf iv).toNat)
    case atStart => exact ⟨0, Nat.zero_le _, rfl, Lib.hid (Below.refl _ _), Lib.hid (fun i h => by omega)⟩
    case round =>
      obtain ⟨k, hk, rfl, BR, HK⟩ := hrel
      have hk0 : (0 : Int) ≤ (k : Int) := Int.natCast_nonneg _
      by_cases hkn : k < m.facts.length
      · have hk1 : (k : Int) < (m.facts.length : Int) := by omega
        have c3 := HC.out _ BR.out k hkn
        have HNk := Lib.hid (HNOT.out k hkn)
        have HKk : Hid (L.getD k 0 = (k : Int) → ∀ i, i < k + 1 → L.getD i 0 = (i : Int)) := Lib.hid (fun e i hi => by
          rcases Nat.lt_or_eq_of_le (Nat.le_of_lt_succ hi) with h | h
          · exact HK.out i h
          · rw [h]; exact e)
        clear HK
        generalize L.getD k 0 = z at *
        by_cases e : z = (k : Int)
        · subst e
          go_wp2
          go_roundw
          case rel => exact ⟨k + 1, by omega, by go_num, BR, Lib.hid (HKk.out rfl)⟩
          case measure => simp [intOf]; omega
        · have e1 : (z == (k : Int)) = false := by simpa using e
          have HAN := Lib.hid (HNk.out e)
          go_wp2
          go_ret
          exact ⟨ret_bool HAN.out.symm, B2.out.trans (BR.out.mono B2.out.size)⟩
      · obtain rfl : k = m.facts.length := by omega
        have HAN := Lib.hid (HALL.out HK.out)
        have BR2 := Lib.hid (B2.out.trans (BR.out.mono B2.out.size))
        have XR := Lib.hid (X2.out.below BR.out)
        have HXR : Hid (∀ W, Below wr.heap.size wr W → Mcell W w.heap.size (.slice (some ⟨fb, fo, none⟩) m.facts.length fc) (.slice (some ⟨bb, bo, none⟩) m.blocks.length bc) m.actual) := Lib.hid (fun W h => XR.out.below h)
        have HRG : Hid (∀ W, Below wr.heap.size wr W → W.rangeAt w.heap.size 0 [.slice (some ⟨fb, fo, none⟩) m.facts.length fc, .slice (some ⟨bb, bo, none⟩) m.blocks.length bc, .int .i64 m.actual]) := Lib.hid (fun W h => (XR.out.below h).range)
        have HU : Try.prog.underlying 28 = some _ := Try.underlying28
        have hQ : (q == m.facts.length) = ((q : Int) == (m.facts.length : Int)) := by
          rw [Bool.eq_iff_iff, beq_iff_eq, beq_iff_eq]; omega
        have hq0 : (0 : Int) ≤ (q : Int) := Int.natCast_nonneg _
        have HQ := Lib.hid hQ
        clear HK HNOT HALL HC X2 B2 BR hQ
        go_wp2
        refine regionL (fun W => Below wr.heap.size wr W) [9] (by kernel_rfl) (Below.refl _ _).drew (fun hHeld => ?_)
        refine takeA (i := 0) (v := .agg #[.slice (some ⟨fb, fo, none⟩) m.facts.length fc, .slice (some ⟨bb, bo, none⟩) m.blocks.length bc, .int .i64 m.actual]) 20 rfl rfl (by kernel_rfl) (by kernel_rfl) (by kernel_rfl) (by kernel_rfl) (fun _ _ _ h => h) (yieldsIf_load_mid (by rfl) 28 _ rfl w.heap.size 0 rfl [.slice (some ⟨fb, fo, none⟩) m.facts.length fc, .slice (some ⟨bb, bo, none⟩) m.blocks.length bc, .int .i64 m.actual] _ HRG.out HU rfl Try.sizeMd) hHeld ?_
        simp only [Act.put, List.setIfInBounds_toArray, List.set_cons_zero, List.set_cons_succ]
        refine takeA (i := 1) (v := .pointer (some ⟨w.heap.size, 2, none⟩)) 21 rfl rfl (by kernel_rfl) (by kernel_rfl) (by kernel_rfl) (by kernel_rfl) (fun _ _ _ h => h) (Or.inl ⟨by rfl, by intro W hSw; go_simp⟩) hHeld ?_
        simp only [Act.put, List.setIfInBounds_toArray, List.set_cons_zero, List.set_cons_succ]
        refine takeA (i := 5) (v := .pointer (some ⟨w.heap.size, 0, none⟩)) 25 rfl rfl (by kernel_rfl) (by kernel_rfl) (by kernel_rfl) (by kernel_rfl) (fun _ _ _ h => h) (Or.inl ⟨by rfl, by intro W hSw; go_simp⟩) hHeld ?_
        simp only [Act.put, List.setIfInBounds_toArray, List.set_cons_zero, List.set_cons_succ]
        refine takeA (i := 2) (v := .int .i64 m.actual) 22 rfl rfl (by kernel_rfl) (by kernel_rfl) (by kernel_rfl) (by kernel_rfl) (fun _ _ _ h => h) (Or.inl ⟨by rfl, by intro W hSw; obtain ⟨xc0, xc1, xc2, xc3, xc4, xc5⟩ := HXR.out _ hSw; go_simp⟩) hHeld ?_
        simp only [Act.put, List.setIfInBounds_toArray, List.set_cons_zero, List.set_cons_succ]
        refine takeA (i := 6) (v := .slice (some ⟨fb, fo, none⟩) m.facts.length fc) 26 rfl rfl (by kernel_rfl) (by kernel_rfl) (by kernel_rfl) (by kernel_rfl) (fun _ _ _ h => h) (Or.inl ⟨by rfl, by intro W hSw; obtain ⟨xc0, xc1, xc2, xc3, xc4, xc5⟩ := HXR.out _ hSw; go_simp⟩) hHeld ?_
        simp only [Act.put, List.setIfInBounds_toArray, List.set_cons_zero, List.set_cons_succ]
        refine takeA (i := 7) (v := .int .i64 m.facts.length) 27 rfl rfl (by kernel_rfl) (by kernel_rfl) (by kernel_rfl) (by kernel_rfl) (fun _ _ _ h => h) (Or.inl ⟨by rfl, by intro W hSw; go_simp⟩) hHeld ?_
        simp only [Act.put, List.setIfInBounds_toArray, List.set_cons_zero, List.set_cons_succ]
        refine onlyL (i := 3) (by kernel_rfl) rfl (by rfl) (fun K hK => ?_)
        go_simp
        refine (KR.out _ (BR2.out.trans (hHeld.mono BR2.out.size))).mono ?_
        rintro e w6 ⟨vr, rfl, hor, hb6⟩
        have t6 : Below wr.heap.size wr w6 := hHeld.trans (hb6.mono hHeld.size)
        obtain ⟨ar, cr, rfl⟩ := Ro.form hor
        rw [ints_len, HRL.out]
        clear hb6 hHeld hor
        refine hK.out _ _ (fun _ => t6) (fun hHeld => ?_)
        have hHeld := hHeld (by decide)
        clear hK K
        try simp only [Act.put, List.setIfInBounds_toArray, List.set_cons_zero, List.set_cons_succ]
        refine takeA (i := 4) (v := .int .i64 q) 24 rfl rfl (by kernel_rfl) (by kernel_rfl) (by kernel_rfl) (by kernel_rfl) (fun _ _ _ h => h) (Or.inl ⟨by rfl, by intro W hSw; go_simp⟩) hHeld ?_
        simp only [Act.put, List.setIfInBounds_toArray, List.set_cons_zero, List.set_cons_succ]
        refine takeA (i := 8) (v := .bool ((q : Int) == (m.facts.length : Int))) 28 rfl rfl (by kernel_rfl) (by kernel_rfl) (by kernel_rfl) (by kernel_rfl) (fun _ _ _ h => h) (Or.inl ⟨by rfl, by intro W hSw; go_simp⟩) hHeld ?_
        simp only [Act.put, List.setIfInBounds_toArray, List.set_cons_zero, List.set_cons_succ]
        refine onlyL (i := 9) (by kernel_rfl) rfl (by rfl) (fun K hK => ?_)
        go_simp
        refine hK.out _ _ (fun h => absurd (by decide) h) (fun _ => ?_)
        clear hK K
        refine doneL (by kernel_rfl) ?_ _
        go_wp2
        go_ret
        exact ⟨ret_bool (by rw [HAN.out, HQ.out]), BR2.out.trans (t6.mono BR2.out.size)⟩
end Go.Proofs.Ytodjohdbngbpaab
