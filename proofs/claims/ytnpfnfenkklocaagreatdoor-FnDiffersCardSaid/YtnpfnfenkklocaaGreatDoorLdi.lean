/- Ldi -/
import Derived.Test.YtnpfnfenkklocaaGreatDoorZDrw
import Derived.Test.YtnpfnfenkklocaaGreatDoorLhs
import Derived.Test.YtnpfnfenkklocaaGreatDoorZDrg
import Derived.Test.YtnpfnfenkklocaaGreatDoorTww
import Derived.Test.YtnpfnfenkklocaaGreatDoorZDfi
import Derived.Test.YtnpfnfenkklocaaGreatDoorZDfe
set_option maxRecDepth 100000
set_option maxHeartbeats 64000000
namespace Go.Proofs.YtnpfnfenkklocaaGreatDoor
open Go.RowKit Go.WideShapes
open Go Go.Deep
set_option linter.unusedSimpArgs false
theorem tag_ag {A : Nat} : ∀ (t : Tm), tag t A → t.ag (A : Int)
  | .leaf _ _, _ => trivial
  | .deny a, h => tag_ag a h
  | .know _ _ a, h => ⟨h.1, tag_ag a h.2⟩
  | .joint _ a b, h => ⟨tag_ag a h.1, tag_ag b h.2⟩
theorem ag_tag {A : Nat} : ∀ (t : Tm), t.ag (A : Int) → tag t A
  | .leaf _ _, _ => trivial
  | .deny a, h => ag_tag a h
  | .know _ _ a, h => ⟨h.1, ag_tag a h.2⟩
  | .joint _ a b, h => ⟨ag_tag a h.1, ag_tag b h.2⟩
theorem where_tag {m : Md} {t : Tm} (hm : mdOk m = true) (hw : t.wf) (hs : t.size ≤ 40) (ht : tag t m.blocks.length) : whereR m (lay 0 t) = nums (lst (evI t m) 16) := by
  obtain ⟨p1, p2, p3, p4, -⟩ := mdOk_parts hm
  unfold whereR
  rw [evOk_lay hm hw hs (A := m.blocks.length) (by omega) (Nat.le_refl _) (tag_ag t ht), evP_lay hw hs, if_pos rfl]
theorem has_lst {p : Nat → Bool} {a : Nat} (ha : a < 16) : hasB (nums (lst p 16)) (a : Int) = p a := by
  unfold hasB nums
  by_cases h : p a = true
  · rw [h]
    exact decide_eq_true (List.mem_map.2 ⟨a, mem_lst.2 ⟨ha, h⟩, rfl⟩)
  · rw [Bool.not_eq_true] at h
    rw [h]
    refine decide_eq_false fun hm => ?_
    obtain ⟨b, hb, e⟩ := List.mem_map.1 hm
    have : b = a := Int.ofNat.inj e
    subst this
    rw [(mem_lst.1 hb).2] at h
    cases h
theorem cls_alike {m : Md} {t : Tm} {a b : Nat} (hm : mdOk m = true) (hw : t.wf) (ht : tag t m.blocks.length) (ha : a < m.facts.length) (hb : b < m.facts.length) (e : (lastC m).getD a 0 = (lastC m).getD b 0) : evI t m a = evI t m b := by
  obtain ⟨p1, p2, -⟩ := mdOk_parts hm
  exact evI_bis (bis_last p1) p2 p2 hw ht ⟨ha, hb, e⟩
theorem diffR_same {m : Md} {a b : Nat} (e : (lastC m).getD a 0 = (lastC m).getD b 0) : diffR m (a : Int) (b : Int) = none := by
  unfold diffR
  rw [Int.toNat_natCast, Int.toNat_natCast, e]
  simp
theorem walk_FnDiffers (v0 : Value) (len : Nat) (w : World) (h0 : InBytes w v0 len) (hL : laidMetH Tryz.prog Rows.fnDiffersRow.laid w) :
    Calls Tryz.prog 4 #[v0] w fun e w' => e = .returned (.bool true) ∧ Below w.heap.size w w' := by
  have HT := hid (tab_Differs hL)
  clear hL
  obtain ⟨a0, cap0, rfl, hlc, hcm, -⟩ := id h0
  unfold maxLen at hcm
  by_cases hbig : 1048576 < len
  · clear h0 HT
    go_enter Tryz.func4, Tryz.ntmps4
    go_wp2
    go_ret
    exact ⟨rfl, Below.refl _ _⟩
  have hcode := h0.code (by omega)
  have KM := hid (makeDull_any w (.slice a0 len cap0) 0 (by decide) hcode)
  have KN := hid (fun q (hq : q ≤ 1000) W (h : Below w.heap.size w W) => makeNum_any W (.slice a0 len cap0) q hq (hcode.below h (Nat.le_refl _)))
  have KF := hid (fun W (h : Below w.heap.size w W) => makeF_any W (.slice a0 len cap0) 60 7 (by decide) (by decide) (by decide) (hcode.below h (Nat.le_refl _)))
  clear h0 hcode
  go_enter Tryz.func4, Tryz.ntmps4
  go_wp2_with fail
  refine KM.out.mono ?_
  rintro e w1 ⟨vm, m, rfl, hmo, ⟨hmd, hn7, ha2, hf8⟩, hb1⟩
  clear KM hf8
  obtain ⟨p1, p2, p3, p4, -⟩ := mdOk_parts hmd
  obtain ⟨fa, fc, ba, bc, e1⟩ := hmo.read.form
  subst e1
  have XO := hid hmo.read
  have HMD := hid hmd
  have HA2 := hid ha2
  have B1 := hid hb1
  clear hmo hmd ha2 hb1
  go_wp2_with fail
  have A2 := hid (Mcell.new (w := w1) (T := 30) (b := w1.heap.size) (fv := .slice fa m.facts.length fc) (bv := .slice ba m.blocks.length bc) (n := m.actual) rfl)
  have hb2 : Below w1.heap.size w1 (w1.alloc (.cells #[.slice fa m.facts.length fc, .slice ba m.blocks.length bc, .int .i64 m.actual] 30)) := by go_grown
  generalize w1.alloc (.cells #[.slice fa m.facts.length fc, .slice ba m.blocks.length bc, .int .i64 m.actual] 30) = w2 at *
  have B2 : Hid (Below w.heap.size w w2) := hid (B1.out.trans (hb2.mono B1.out.size))
  have XO := hid ((XO.out.keeps (Keeps.of_all hb2)).wide (Nat.le_refl _) hb2.size)
  clear hb2 B1
  refine (KN.out 40 (by decide) _ B2.out).mono ?_
  rintro e w3 ⟨x, rfl, hx0, hx1, hb3⟩
  have A3 := hid (A2.out.below hb3)
  have XO := hid ((XO.out.keeps (Keeps.of_all hb3)).wide (Nat.le_refl _) hb3.size)
  have B3 : Hid (Below w.heap.size w w3) := hid (B2.out.trans (hb3.mono B2.out.size))
  clear hb3 A2 B2
  have hn0 : (m.facts.length : Int) ≠ 0 := by omega
  have hnp : (0 : Int) < (m.facts.length : Int) := by omega
  have hn16 : (m.facts.length : Int) ≤ 16 := by omega
  have hnb : ((m.facts.length : Int) == 0) = false := by simpa using hn0
  obtain ⟨a, ha, han⟩ : ∃ a : Nat, x % (m.facts.length : Int) = (a : Int) ∧ a < m.facts.length := ⟨(x % (m.facts.length : Int)).toNat, (Int.toNat_of_nonneg (Int.emod_nonneg _ hn0)).symm, by have h1 := Int.emod_lt_of_pos x hnp; have h2 := Int.emod_nonneg x hn0; omega⟩
  have hat : x.tmod (m.facts.length : Int) = (a : Int) := by rw [Int.tmod_eq_emod_of_nonneg hx0]; exact ha
  go_wp2_with fail
  refine (KN.out 42 (by decide) _ B3.out).mono ?_
  rintro e w4 ⟨y, rfl, hy0, hy1, hb4⟩
  have A4 := hid (A3.out.below hb4)
  have XO := hid ((XO.out.keeps (Keeps.of_all hb4)).wide (Nat.le_refl _) hb4.size)
  have B4 : Hid (Below w.heap.size w w4) := hid (B3.out.trans (hb4.mono B3.out.size))
  clear hb4 A3 B3 KN
  obtain ⟨b, hb, hbn⟩ : ∃ b : Nat, y % (m.facts.length : Int) = (b : Int) ∧ b < m.facts.length := ⟨(y % (m.facts.length : Int)).toNat, (Int.toNat_of_nonneg (Int.emod_nonneg _ hn0)).symm, by have h1 := Int.emod_lt_of_pos y hnp; have h2 := Int.emod_nonneg y hn0; omega⟩
  have hbt : y.tmod (m.facts.length : Int) = (b : Int) := by rw [Int.tmod_eq_emod_of_nonneg hy0]; exact hb
  have ha0 : (0 : Int) ≤ (a : Int) := Int.natCast_nonneg _
  have ha1 : (a : Int) < (m.facts.length : Int) := by omega
  have hb0 : (0 : Int) ≤ (b : Int) := Int.natCast_nonneg _
  have hb1 : (b : Int) < (m.facts.length : Int) := by omega
  obtain ⟨xc0, xc1, xc2, xc3, xc4, xc5⟩ := A4.out
  go_wp2_with fail
  clear xc0 xc1 xc2 xc3 xc4 xc5
  clear hx0 hx1 hy0 hy1 hat hbt ha hb hnb
  refine (implClasses_any _ _ _ m _ XO.out (Nat.le_refl _)).mono ?_
  rintro e w5 ⟨vc, rfl, hoc, hb5⟩
  rw [show classR m = lastC m from by unfold classR; rw [HMD.out]; rfl] at hoc
  have HLL : Hid ((lastC m).length = m.facts.length) := hid (clsAt_len m _)
  obtain ⟨cb, co, cc, rfl, c1, c2, hcb, hC⟩ := iv_open hoc.read (by rw [HLL.out]; omega)
  rw [HLL.out] at c1 hC ⊢
  unfold maxLen at c2
  have HC := hid hC
  have A5 := hid (A4.out.below hb5)
  have XO := hid ((XO.out.keeps (Keeps.of_all hb5)).wide (Nat.le_refl _) hb5.size)
  have B5 : Hid (Below w.heap.size w w5) := hid (B4.out.trans (hb5.mono B4.out.size))
  clear hb5 hoc hC A4 B4
  obtain ⟨xc0, xc1, xc2, xc3, xc4, xc5⟩ := A5.out
  have HEQ := hid (fun (h : (lastC m).getD a 0 = (lastC m).getD b 0) => diffR_same h)
  have HCA := hid (fun t hm' hw' ht' h => cls_alike (m := m) (t := t) (a := a) (b := b) hm' hw' ht' han hbn h)
  have HSM := hid (fun xs (h : diffR m (a : Int) (b : Int) = some xs) => diffR_some h)
  have KI := hid (fun W hr hT => implDiffOf_any 0 W.heap.size (.agg #[.slice fa m.facts.length fc, .slice ba m.blocks.length bc, .int .i64 m.actual]) m (a : Int) (b : Int) W hr (Nat.le_refl _) hT)
  have KS := hid (fun W hr => specDiffOf_any 0 W.heap.size (.agg #[.slice fa m.facts.length fc, .slice ba m.blocks.length bc, .int .i64 m.actual]) m (a : Int) (b : Int) W hr)
  unfold Ans at KI KS
  have XO := hid (XO.out.wide (Nat.zero_le _) (Nat.le_refl _))
  cases hR : diffR m (a : Int) (b : Int) with
  | some xs =>
    rw [hR] at KI KS
    go_wp2_with fail
    clear xc0 xc1 xc2 xc3 xc4 xc5
    refine (KI.out _ XO.out (HT.out.below B5.out (Nat.le_refl _))).mono ?_
    rintro e w6 ⟨vf, rfl, hof, hb6⟩
    have hnf := Ns.of_own hof
    obtain ⟨af, cf, rfl, -⟩ := hnf.parts
    have F6 := hid hnf
    have A6 := hid (A5.out.below hb6)
    have XO := hid ((XO.out.keeps (Keeps.of_all hb6)).wide (Nat.le_refl _) hb6.size)
    have B6 : Hid (Below w.heap.size w w6) := hid (B5.out.trans (hb6.mono B5.out.size))
    have T6 : Hid (Below w5.heap.size w5 w6) := hid hb6
    clear hof hnf hb6 A5 B5 KI HT
    obtain ⟨xc0, xc1, xc2, xc3, xc4, xc5⟩ := A6.out
    go_wp2_with fail
    clear xc0 xc1 xc2 xc3 xc4 xc5
    refine (KS.out _ XO.out).mono ?_
    rintro e w7 ⟨vg, rfl, hog, hb7⟩
    clear hog
    have F7 := hid (F6.out.below hb7 (Nat.le_refl _))
    have A7 := hid (A6.out.below hb7)
    have XO := hid ((XO.out.keeps (Keeps.of_all hb7)).wide (Nat.le_refl _) hb7.size)
    have B7 : Hid (Below w.heap.size w w7) := hid (B6.out.trans (hb7.mono B6.out.size))
    have T7 : Hid (Below w5.heap.size w5 w7) := hid (T6.out.trans (hb7.mono T6.out.size))
    clear hb7 A6 B6 F6 T6 KS
    have HCc : Hid (∀ W, Below w7.heap.size w7 W → ∀ j, j < m.facts.length → W.cell? ⟨cb, co + j, none⟩ = some (.int .i64 ((lastC m).getD j 0))) := hid (fun W h => HC.out W (T7.out.trans (h.mono T7.out.size)))
    clear HC T7
    go_wp2
    obtain ⟨t, rfl, hw, hs, ht, -, -, hne, ev1, ev2⟩ := HSM.out xs hR
    rw [Int.toNat_natCast, Int.toNat_natCast] at hne
    obtain ⟨z1, hz1⟩ : ∃ z, z = (lastC m).getD a 0 := ⟨_, rfl⟩
    obtain ⟨z2, hz2⟩ : ∃ z, z = (lastC m).getD b 0 := ⟨_, rfl⟩
    have HC1 : Hid (∀ W, Below w7.heap.size w7 W → W.cell? ⟨cb, co + a, none⟩ = some (.int .i64 z1)) := hid (fun W h => by rw [hz1]; exact HCc.out W h a han)
    have HC2 : Hid (∀ W, Below w7.heap.size w7 W → W.cell? ⟨cb, co + b, none⟩ = some (.int .i64 z2)) := hid (fun W h => by rw [hz2]; exact HCc.out W h b hbn)
    have hnl : ¬ z1 = z2 := by rw [hz1, hz2]; exact hne
    clear hz1 hz2 hne
    rw [Int.toNat_natCast] at ev1 ev2
    have hsome : ((some (lay 0 t)).isSome) = true := rfl
    refine regionL (fun U => Below w7.heap.size w7 U) [] (by kernel_rfl) (Below.refl _ _).drew (fun hHeld => ?_)
    refine takeA (i := 0) (v := .bool true) 51 rfl rfl (by kernel_rfl) (by kernel_rfl) (by kernel_rfl) (by kernel_rfl) (fun _ _ _ h => h) (Or.inl ⟨by rfl, by intro W hSw; go_simp⟩) hHeld ?_
    simp only [Act.put, zA, zB, zC]
    refine takeA (i := 1) (v := .bool true) 52 rfl rfl (by kernel_rfl) (by kernel_rfl) (by kernel_rfl) (by kernel_rfl) (fun _ _ _ h => h) (Or.inl ⟨by rfl, by intro W hSw; go_simp⟩) hHeld ?_
    simp only [Act.put, zA, zB, zC]
    refine takeA (i := 2) (v := .bool false) 53 rfl rfl (by kernel_rfl) (by kernel_rfl) (by kernel_rfl) (by kernel_rfl) (fun _ _ _ h => h) (Or.inl ⟨by rfl, by intro W hSw; go_simp⟩) hHeld ?_
    simp only [Act.put, zA, zB, zC]
    refine takeA (i := 3) (v := .bool false) 54 rfl rfl (by kernel_rfl) (by kernel_rfl) (by kernel_rfl) (by kernel_rfl) (fun _ _ _ h => h) (Or.inl ⟨by rfl, by intro W hSw; go_simp⟩) hHeld ?_
    simp only [Act.put, zA, zB, zC]
    refine takeA (i := 4) (v := .bool true) 55 rfl rfl (by kernel_rfl) (by kernel_rfl) (by kernel_rfl) (by kernel_rfl) (fun _ _ _ h => h) (Or.inl ⟨by rfl, by intro W hSw; go_simp⟩) hHeld ?_
    simp only [Act.put, zA, zB, zC]
    refine takeA (i := 5) (v := .bool true) 56 rfl rfl (by kernel_rfl) (by kernel_rfl) (by kernel_rfl) (by kernel_rfl) (fun _ _ _ h => h) (Or.inl ⟨by rfl, by intro W hSw; go_simp⟩) hHeld ?_
    simp only [Act.put, zA, zB, zC]
    refine takeA (i := 6) (v := (.slice (some ⟨cb, co, none⟩) m.facts.length cc)) 57 rfl rfl (by kernel_rfl) (by kernel_rfl) (by kernel_rfl) (by kernel_rfl) (fun _ _ _ h => h) (Or.inl ⟨by rfl, by intro W hSw; go_simp⟩) hHeld ?_
    simp only [Act.put, zA, zB, zC]
    refine takeA (i := 7) (v := (.int .i64 a)) 58 rfl rfl (by kernel_rfl) (by kernel_rfl) (by kernel_rfl) (by kernel_rfl) (fun _ _ _ h => h) (Or.inl ⟨by rfl, by intro W hSw; go_simp⟩) hHeld ?_
    simp only [Act.put, zA, zB, zC]
    refine takeA (i := 10) (v := (.slice (some ⟨cb, co, none⟩) m.facts.length cc)) 61 rfl rfl (by kernel_rfl) (by kernel_rfl) (by kernel_rfl) (by kernel_rfl) (fun _ _ _ h => h) (Or.inl ⟨by rfl, by intro W hSw; go_simp⟩) hHeld ?_
    simp only [Act.put, zA, zB, zC]
    refine takeA (i := 11) (v := (.int .i64 b)) 62 rfl rfl (by kernel_rfl) (by kernel_rfl) (by kernel_rfl) (by kernel_rfl) (fun _ _ _ h => h) (Or.inl ⟨by rfl, by intro W hSw; go_simp⟩) hHeld ?_
    simp only [Act.put, zA, zB, zC]
    refine takeA (i := 8) (v := .pointer (some ⟨cb, co + a, none⟩)) 59 rfl rfl (by kernel_rfl) (by kernel_rfl) (by kernel_rfl) (by kernel_rfl) (fun _ _ _ h => h) (Or.inl ⟨by rfl, by intro W hSw; go_simp⟩) hHeld ?_
    simp only [Act.put, zA, zB, zC]
    refine takeA (i := 12) (v := .pointer (some ⟨cb, co + b, none⟩)) 63 rfl rfl (by kernel_rfl) (by kernel_rfl) (by kernel_rfl) (by kernel_rfl) (fun _ _ _ h => h) (Or.inl ⟨by rfl, by intro W hSw; go_simp⟩) hHeld ?_
    simp only [Act.put, zA, zB, zC]
    refine takeA (i := 9) (v := .int .i64 z1) 60 rfl rfl (by kernel_rfl) (by kernel_rfl) (by kernel_rfl) (by kernel_rfl) (fun _ _ _ h => h) (Or.inl ⟨by rfl, by intro W hSw; have c1 := HC1.out _ hSw; go_simp⟩) hHeld ?_
    simp only [Act.put, zA, zB, zC]
    refine takeA (i := 13) (v := .int .i64 z2) 64 rfl rfl (by kernel_rfl) (by kernel_rfl) (by kernel_rfl) (by kernel_rfl) (fun _ _ _ h => h) (Or.inl ⟨by rfl, by intro W hSw; have c1 := HC2.out _ hSw; go_simp⟩) hHeld ?_
    simp only [Act.put, zA, zB, zC]
    refine takeA (i := 14) (v := .bool false) 65 rfl rfl (by kernel_rfl) (by kernel_rfl) (by kernel_rfl) (by kernel_rfl) (fun _ _ _ h => h) (Or.inl ⟨by rfl, by intro W hSw; go_simp; try exact hnl⟩) hHeld ?_
    simp only [Act.put, zA, zB, zC]
    refine takeA (i := 15) (v := .bool false) 66 rfl rfl (by kernel_rfl) (by kernel_rfl) (by kernel_rfl) (by kernel_rfl) (fun _ _ _ h => h) (Or.inl ⟨by rfl, by intro W hSw; go_simp⟩) hHeld ?_
    simp only [Act.put, zA, zB, zC]
    refine takeA (i := 16) (v := .bool false) 67 rfl rfl (by kernel_rfl) (by kernel_rfl) (by kernel_rfl) (by kernel_rfl) (fun _ _ _ h => h) (Or.inl ⟨by rfl, by intro W hSw; go_simp⟩) hHeld ?_
    simp only [Act.put, zA, zB, zC]
    refine doneL (by kernel_rfl) ?_ _
    generalize (World.drew _) = wd at hHeld ⊢
    have A8 := hid (A7.out.below hHeld)
    have F8 : Hid (Ns wd (.slice af (lay 0 t).length cf) (lay 0 t)) := hid (F7.out.below hHeld (Nat.le_refl _))
    have XO := hid ((XO.out.keeps (Keeps.of_all hHeld)).wide (Nat.le_refl _) hHeld.size)
    have B8 : Hid (Below w.heap.size w wd) := hid (B7.out.trans (hHeld.mono B7.out.size))
    clear hHeld A7 F7 B7 HCc
    obtain ⟨xc0, xc1, xc2, xc3, xc4, xc5⟩ := A8.out
    go_wp2_with fail
    clear xc0 xc1 xc2 xc3 xc4 xc5
    refine (implWhere_any _ _ _ _ m (lay 0 t) _ XO.out (Nat.le_refl _) F8.out).mono ?_
    rintro e w9 ⟨vt, rfl, hot, hb9⟩
    rw [where_tag HMD.out hw hs ht] at hot
    obtain ⟨ta, tc, rfl⟩ := hot.form
    have O9 := hid hot.read
    have F9 := hid (F8.out.below hb9 (Nat.le_refl _))
    have B9 : Hid (Below w.heap.size w w9) := hid (B8.out.trans (hb9.mono B8.out.size))
    clear hot hb9 A8 F8 B8 XO
    have KFO := hid (implForm_any _ (lay 0 t) w9 F9.out)
    rw [lay_formOk hw hs] at KFO
    have KHA := hid (fun W (h : Below w9.heap.size w9 W) => lawHas_any _ _ _ _ (a : Int) W (O9.out.keeps (Keeps.of_all h)))
    have KHB := hid (fun W (h : Below w9.heap.size w9 W) => lawHas_any _ _ _ _ (b : Int) W (O9.out.keeps (Keeps.of_all h)))
    rw [has_lst (by omega), ev1] at KHA
    rw [has_lst (by omega), ev2] at KHB
    have tk1 : True := trivial
    have tk2 : True := trivial
    have tk3 : True := trivial
    go_wp2_with
      (first
        | (have _t := tk1; clear _t tk1; go_at_call 20; (with_reducible refine KFO.out.mono ?_); rintro e w10 ⟨rfl, hb10⟩; have T10 := hid hb10; have B10 : Hid (Below w.heap.size w w10) := hid (B9.out.trans (hb10.mono B9.out.size)); clear hb10)
        | (have _t := tk2; clear _t tk2; go_at_call 19; (with_reducible refine (KHA.out _ T10.out).mono ?_); rintro e w11 ⟨rfl, rfl⟩)
        | (have _t := tk3; clear _t tk3; go_at_call 19; (with_reducible refine (KHB.out _ T10.out).mono ?_); rintro e w11 ⟨rfl, rfl⟩))
    go_ret
    exact ⟨rfl, B10.out⟩
  | none =>
    rw [hR] at KI KS
    go_wp2_with fail
    clear xc0 xc1 xc2 xc3 xc4 xc5
    refine (KI.out _ XO.out (HT.out.below B5.out (Nat.le_refl _))).mono ?_
    rintro e w6 ⟨vf, rfl, hof, hb6⟩
    have hnf := Ns.of_own hof
    obtain ⟨af, cf, rfl, -⟩ := hnf.parts
    have F6 := hid hnf
    have A6 := hid (A5.out.below hb6)
    have XO := hid ((XO.out.keeps (Keeps.of_all hb6)).wide (Nat.le_refl _) hb6.size)
    have B6 : Hid (Below w.heap.size w w6) := hid (B5.out.trans (hb6.mono B5.out.size))
    have T6 : Hid (Below w5.heap.size w5 w6) := hid hb6
    clear hof hnf hb6 A5 B5 KI HT
    obtain ⟨xc0, xc1, xc2, xc3, xc4, xc5⟩ := A6.out
    go_wp2_with fail
    clear xc0 xc1 xc2 xc3 xc4 xc5
    refine (KS.out _ XO.out).mono ?_
    rintro e w7 ⟨vg, rfl, hog, hb7⟩
    clear hog
    have F7 := hid (F6.out.below hb7 (Nat.le_refl _))
    have A7 := hid (A6.out.below hb7)
    have XO := hid ((XO.out.keeps (Keeps.of_all hb7)).wide (Nat.le_refl _) hb7.size)
    have B7 : Hid (Below w.heap.size w w7) := hid (B6.out.trans (hb7.mono B6.out.size))
    have T7 : Hid (Below w5.heap.size w5 w7) := hid (T6.out.trans (hb7.mono T6.out.size))
    clear hb7 A6 B6 F6 T6 KS
    have HCc : Hid (∀ W, Below w7.heap.size w7 W → ∀ j, j < m.facts.length → W.cell? ⟨cb, co + j, none⟩ = some (.int .i64 ((lastC m).getD j 0))) := hid (fun W h => HC.out W (T7.out.trans (h.mono T7.out.size)))
    clear HC T7
    go_wp2
    have hnone : ((none : Option (List Nd)).isSome) = false := rfl
    refine regionL (fun U => Below w7.heap.size w7 U) [] (by kernel_rfl) (Below.refl _ _).drew (fun hHeld => ?_)
    refine takeA (i := 0) (v := .bool false) 51 rfl rfl (by kernel_rfl) (by kernel_rfl) (by kernel_rfl) (by kernel_rfl) (fun _ _ _ h => h) (Or.inl ⟨by rfl, by intro W hSw; go_simp⟩) hHeld ?_
    simp only [Act.put, zA, zB, zC]
    refine takeA (i := 1) (v := .bool false) 52 rfl rfl (by kernel_rfl) (by kernel_rfl) (by kernel_rfl) (by kernel_rfl) (fun _ _ _ h => h) (Or.inl ⟨by rfl, by intro W hSw; go_simp⟩) hHeld ?_
    simp only [Act.put, zA, zB, zC]
    refine takeA (i := 2) (v := .bool false) 53 rfl rfl (by kernel_rfl) (by kernel_rfl) (by kernel_rfl) (by kernel_rfl) (fun _ _ _ h => h) (Or.inl ⟨by rfl, by intro W hSw; go_simp⟩) hHeld ?_
    simp only [Act.put, zA, zB, zC]
    refine takeA (i := 3) (v := .bool false) 54 rfl rfl (by kernel_rfl) (by kernel_rfl) (by kernel_rfl) (by kernel_rfl) (fun _ _ _ h => h) (Or.inl ⟨by rfl, by intro W hSw; go_simp⟩) hHeld ?_
    simp only [Act.put, zA, zB, zC]
    refine takeA (i := 4) (v := .bool false) 55 rfl rfl (by kernel_rfl) (by kernel_rfl) (by kernel_rfl) (by kernel_rfl) (fun _ _ _ h => h) (Or.inl ⟨by rfl, by intro W hSw; go_simp⟩) hHeld ?_
    simp only [Act.put, zA, zB, zC]
    refine takeA (i := 5) (v := .bool false) 56 rfl rfl (by kernel_rfl) (by kernel_rfl) (by kernel_rfl) (by kernel_rfl) (fun _ _ _ h => h) (Or.inl ⟨by rfl, by intro W hSw; go_simp⟩) hHeld ?_
    simp only [Act.put, zA, zB, zC]
    refine takeA (i := 6) (v := undef) 57 rfl rfl (by kernel_rfl) (by kernel_rfl) (by kernel_rfl) (by kernel_rfl) (fun _ _ _ h => h) (Or.inr ⟨by rfl, rfl⟩) hHeld ?_
    simp only [Act.put, zA, zB, zC]
    refine takeA (i := 7) (v := undef) 58 rfl rfl (by kernel_rfl) (by kernel_rfl) (by kernel_rfl) (by kernel_rfl) (fun _ _ _ h => h) (Or.inr ⟨by rfl, rfl⟩) hHeld ?_
    simp only [Act.put, zA, zB, zC]
    refine takeA (i := 10) (v := undef) 61 rfl rfl (by kernel_rfl) (by kernel_rfl) (by kernel_rfl) (by kernel_rfl) (fun _ _ _ h => h) (Or.inr ⟨by rfl, rfl⟩) hHeld ?_
    simp only [Act.put, zA, zB, zC]
    refine takeA (i := 11) (v := undef) 62 rfl rfl (by kernel_rfl) (by kernel_rfl) (by kernel_rfl) (by kernel_rfl) (fun _ _ _ h => h) (Or.inr ⟨by rfl, rfl⟩) hHeld ?_
    simp only [Act.put, zA, zB, zC]
    refine takeA (i := 8) (v := undef) 59 rfl rfl (by kernel_rfl) (by kernel_rfl) (by kernel_rfl) (by kernel_rfl) (fun _ _ _ h => h) (Or.inr ⟨by rfl, rfl⟩) hHeld ?_
    simp only [Act.put, zA, zB, zC]
    refine takeA (i := 12) (v := undef) 63 rfl rfl (by kernel_rfl) (by kernel_rfl) (by kernel_rfl) (by kernel_rfl) (fun _ _ _ h => h) (Or.inr ⟨by rfl, rfl⟩) hHeld ?_
    simp only [Act.put, zA, zB, zC]
    refine takeA (i := 9) (v := undef) 60 rfl rfl (by kernel_rfl) (by kernel_rfl) (by kernel_rfl) (by kernel_rfl) (fun _ _ _ h => h) (Or.inr ⟨by rfl, rfl⟩) hHeld ?_
    simp only [Act.put, zA, zB, zC]
    refine takeA (i := 13) (v := undef) 64 rfl rfl (by kernel_rfl) (by kernel_rfl) (by kernel_rfl) (by kernel_rfl) (fun _ _ _ h => h) (Or.inr ⟨by rfl, rfl⟩) hHeld ?_
    simp only [Act.put, zA, zB, zC]
    refine takeA (i := 14) (v := undef) 65 rfl rfl (by kernel_rfl) (by kernel_rfl) (by kernel_rfl) (by kernel_rfl) (fun _ _ _ h => h) (Or.inr ⟨by rfl, rfl⟩) hHeld ?_
    simp only [Act.put, zA, zB, zC]
    refine takeA (i := 15) (v := .bool false) 66 rfl rfl (by kernel_rfl) (by kernel_rfl) (by kernel_rfl) (by kernel_rfl) (fun _ _ _ h => h) (Or.inl ⟨by rfl, by intro W hSw; go_simp⟩) hHeld ?_
    simp only [Act.put, zA, zB, zC]
    refine takeA (i := 16) (v := .bool false) 67 rfl rfl (by kernel_rfl) (by kernel_rfl) (by kernel_rfl) (by kernel_rfl) (fun _ _ _ h => h) (Or.inl ⟨by rfl, by intro W hSw; go_simp⟩) hHeld ?_
    simp only [Act.put, zA, zB, zC]
    refine doneL (by kernel_rfl) ?_ _
    generalize (World.drew _) = wd at hHeld ⊢
    have T8 : Hid (Below w7.heap.size w7 wd) := hid hHeld
    have A8 := hid (A7.out.below hHeld)
    have XO := hid ((XO.out.keeps (Keeps.of_all hHeld)).wide (Nat.le_refl _) hHeld.size)
    have B8 : Hid (Below w.heap.size w wd) := hid (B7.out.trans (hHeld.mono B7.out.size))
    clear hHeld A7 F7 B7
    go_wp2_with fail
    refine (KF.out _ B8.out).mono ?_
    rintro e w9 ⟨vh, f, rfl, hoh, ⟨t, rfl, hw, hg, hz⟩, hb9⟩
    have hnh := Ns.of_own hoh
    obtain ⟨ah, ch, rfl, -⟩ := hnh.parts
    have F9 := hid hnh
    have A9 := hid (A8.out.below hb9)
    have XO := hid ((XO.out.keeps (Keeps.of_all hb9)).wide (Nat.le_refl _) hb9.size)
    have B9 : Hid (Below w.heap.size w w9) := hid (B8.out.trans (hb9.mono B8.out.size))
    have T9 : Hid (Below w7.heap.size w7 w9) := hid (T8.out.trans (hb9.mono T8.out.size))
    clear hoh hnh hb9 A8 B8 KF T8
    have hs : t.size ≤ 40 := by omega
    have ht : tag t m.blocks.length := ag_tag t (Tm.ag_mono (by have := HA2.out; omega) t hg)
    obtain ⟨xc0, xc1, xc2, xc3, xc4, xc5⟩ := A9.out
    go_wp2_with fail
    clear xc0 xc1 xc2 xc3 xc4 xc5
    refine (implWhere_any _ _ _ _ m (lay 0 t) _ XO.out (Nat.le_refl _) F9.out).mono ?_
    rintro e w10 ⟨vt, rfl, hot, hb10⟩
    rw [where_tag HMD.out hw hs ht] at hot
    obtain ⟨ta, tc, rfl⟩ := hot.form
    have O10 := hid hot.read
    have B10 : Hid (Below w.heap.size w w10) := hid (B9.out.trans (hb10.mono B9.out.size))
    have T10 : Hid (Below w7.heap.size w7 w10) := hid (T9.out.trans (hb10.mono T9.out.size))
    clear hot hb10 A9 F9 B9 XO T9
    have HCd : Hid (∀ W, Below w10.heap.size w10 W → ∀ j, j < m.facts.length → W.cell? ⟨cb, co + j, none⟩ = some (.int .i64 ((lastC m).getD j 0))) := hid (fun W h => HCc.out W (T10.out.trans (h.mono T10.out.size)))
    clear HCc T10
    obtain ⟨z1, hz1⟩ : ∃ z, z = (lastC m).getD a 0 := ⟨_, rfl⟩
    obtain ⟨z2, hz2⟩ : ∃ z, z = (lastC m).getD b 0 := ⟨_, rfl⟩
    have HC1 : Hid (∀ W, Below w10.heap.size w10 W → W.cell? ⟨cb, co + a, none⟩ = some (.int .i64 z1)) := hid (fun W h => by rw [hz1]; exact HCd.out W h a han)
    have HC2 : Hid (∀ W, Below w10.heap.size w10 W → W.cell? ⟨cb, co + b, none⟩ = some (.int .i64 z2)) := hid (fun W h => by rw [hz2]; exact HCd.out W h b hbn)
    clear HCd
    by_cases hcl : (lastC m).getD a 0 = (lastC m).getD b 0
    · have hnl : z1 = z2 := by rw [hz1, hz2]; exact hcl
      subst hnl
      have KHA := hid (fun W (h : Below w10.heap.size w10 W) => lawHas_any _ _ _ _ (a : Int) W (O10.out.keeps (Keeps.of_all h)))
      have KHB := hid (fun W (h : Below w10.heap.size w10 W) => lawHas_any _ _ _ _ (b : Int) W (O10.out.keeps (Keeps.of_all h)))
      rw [has_lst (by omega), HCA.out t HMD.out hw ht hcl] at KHA
      rw [has_lst (by omega)] at KHB
      generalize evI t m b = ev at KHA KHB
      clear hz1 hz2 hcl
      go_wp2
      refine regionL (fun U => Below w10.heap.size w10 U) [] (by kernel_rfl) (Below.refl _ _).drew (fun hHeld => ?_)
      refine takeA (i := 0) (v := (.slice (some ⟨cb, co, none⟩) m.facts.length cc)) 75 rfl rfl (by kernel_rfl) (by kernel_rfl) (by kernel_rfl) (by kernel_rfl) (fun _ _ _ h => h) (Or.inl ⟨by rfl, by intro W hSw; go_simp⟩) hHeld ?_
      simp only [Act.put, zA, zB, zC]
      refine takeA (i := 1) (v := (.int .i64 a)) 76 rfl rfl (by kernel_rfl) (by kernel_rfl) (by kernel_rfl) (by kernel_rfl) (fun _ _ _ h => h) (Or.inl ⟨by rfl, by intro W hSw; go_simp⟩) hHeld ?_
      simp only [Act.put, zA, zB, zC]
      refine takeA (i := 4) (v := (.slice (some ⟨cb, co, none⟩) m.facts.length cc)) 79 rfl rfl (by kernel_rfl) (by kernel_rfl) (by kernel_rfl) (by kernel_rfl) (fun _ _ _ h => h) (Or.inl ⟨by rfl, by intro W hSw; go_simp⟩) hHeld ?_
      simp only [Act.put, zA, zB, zC]
      refine takeA (i := 5) (v := (.int .i64 b)) 80 rfl rfl (by kernel_rfl) (by kernel_rfl) (by kernel_rfl) (by kernel_rfl) (fun _ _ _ h => h) (Or.inl ⟨by rfl, by intro W hSw; go_simp⟩) hHeld ?_
      simp only [Act.put, zA, zB, zC]
      refine takeA (i := 2) (v := .pointer (some ⟨cb, co + a, none⟩)) 77 rfl rfl (by kernel_rfl) (by kernel_rfl) (by kernel_rfl) (by kernel_rfl) (fun _ _ _ h => h) (Or.inl ⟨by rfl, by intro W hSw; go_simp⟩) hHeld ?_
      simp only [Act.put, zA, zB, zC]
      refine takeA (i := 6) (v := .pointer (some ⟨cb, co + b, none⟩)) 81 rfl rfl (by kernel_rfl) (by kernel_rfl) (by kernel_rfl) (by kernel_rfl) (fun _ _ _ h => h) (Or.inl ⟨by rfl, by intro W hSw; go_simp⟩) hHeld ?_
      simp only [Act.put, zA, zB, zC]
      refine takeA (i := 3) (v := .int .i64 z1) 78 rfl rfl (by kernel_rfl) (by kernel_rfl) (by kernel_rfl) (by kernel_rfl) (fun _ _ _ h => h) (Or.inl ⟨by rfl, by intro W hSw; have c1 := HC1.out _ hSw; go_simp⟩) hHeld ?_
      simp only [Act.put, zA, zB, zC]
      refine takeA (i := 7) (v := .int .i64 z1) 82 rfl rfl (by kernel_rfl) (by kernel_rfl) (by kernel_rfl) (by kernel_rfl) (fun _ _ _ h => h) (Or.inl ⟨by rfl, by intro W hSw; have c1 := HC2.out _ hSw; go_simp⟩) hHeld ?_
      simp only [Act.put, zA, zB, zC]
      refine takeA (i := 8) (v := .bool false) 83 rfl rfl (by kernel_rfl) (by kernel_rfl) (by kernel_rfl) (by kernel_rfl) (fun _ _ _ h => h) (Or.inl ⟨by rfl, by intro W hSw; go_simp; try exact hnl⟩) hHeld ?_
      simp only [Act.put, zA, zB, zC]
      refine takeA (i := 9) (v := .bool false) 84 rfl rfl (by kernel_rfl) (by kernel_rfl) (by kernel_rfl) (by kernel_rfl) (fun _ _ _ h => h) (Or.inl ⟨by rfl, by intro W hSw; go_simp⟩) hHeld ?_
      simp only [Act.put, zA, zB, zC]
      refine takeA (i := 10) (v := (.slice ta (nums (lst (evI t m) 16)).length tc)) 85 rfl rfl (by kernel_rfl) (by kernel_rfl) (by kernel_rfl) (by kernel_rfl) (fun _ _ _ h => h) (Or.inl ⟨by rfl, by intro W hSw; go_simp⟩) hHeld ?_
      simp only [Act.put, zA, zB, zC]
      refine takeA (i := 11) (v := (.int .i64 a)) 86 rfl rfl (by kernel_rfl) (by kernel_rfl) (by kernel_rfl) (by kernel_rfl) (fun _ _ _ h => h) (Or.inl ⟨by rfl, by intro W hSw; go_simp⟩) hHeld ?_
      simp only [Act.put, zA, zB, zC]
      refine takeA (i := 13) (v := (.slice ta (nums (lst (evI t m) 16)).length tc)) 88 rfl rfl (by kernel_rfl) (by kernel_rfl) (by kernel_rfl) (by kernel_rfl) (fun _ _ _ h => h) (Or.inl ⟨by rfl, by intro W hSw; go_simp⟩) hHeld ?_
      simp only [Act.put, zA, zB, zC]
      refine takeA (i := 14) (v := (.int .i64 b)) 89 rfl rfl (by kernel_rfl) (by kernel_rfl) (by kernel_rfl) (by kernel_rfl) (fun _ _ _ h => h) (Or.inl ⟨by rfl, by intro W hSw; go_simp⟩) hHeld ?_
      simp only [Act.put, zA, zB, zC]
      generalize (World.drew _) = wd at hHeld ⊢
      refine onlyL (i := 12) (by kernel_rfl) rfl (by rfl) (fun K hK => ?_)
      go_simp
      refine (KHA.out _ hHeld).mono ?_
      rintro e w11 ⟨rfl, rfl⟩
      refine hK.out _ _ (fun _ => hHeld) (fun _ => ?_)
      clear hK K
      try simp only [Act.put, zA, zB, zC]
      refine onlyL (i := 15) (by kernel_rfl) rfl (by rfl) (fun K hK => ?_)
      go_simp
      refine (KHB.out _ hHeld).mono ?_
      rintro e w11 ⟨rfl, rfl⟩
      refine hK.out _ _ (fun _ => hHeld) (fun _ => ?_)
      clear hK K
      try simp only [Act.put, zA, zB, zC]
      refine takeA (i := 16) (v := .bool true) 91 rfl rfl (by kernel_rfl) (by kernel_rfl) (by kernel_rfl) (by kernel_rfl) (fun _ _ _ h => h) (Or.inl ⟨by rfl, by intro W hSw; go_simp⟩) hHeld ?_
      simp only [Act.put, zA, zB, zC]
      refine takeA (i := 17) (v := .bool true) 92 rfl rfl (by kernel_rfl) (by kernel_rfl) (by kernel_rfl) (by kernel_rfl) (fun _ _ _ h => h) (Or.inl ⟨by rfl, by intro W hSw; go_simp⟩) hHeld ?_
      simp only [Act.put, zA, zB, zC]
      refine takeA (i := 18) (v := .bool true) 2 rfl rfl (by kernel_rfl) (by kernel_rfl) (by kernel_rfl) (by kernel_rfl) (fun _ _ _ h => h) (Or.inl ⟨by rfl, by intro W hSw; go_simp⟩) hHeld ?_
      simp only [Act.put, zA, zB, zC]
      refine doneL (by kernel_rfl) ?_ _
      try simp only [Act.put, zA, zB, zC]
      go_wp2
      go_ret
      exact ⟨rfl, B10.out.trans (hHeld.mono B10.out.size)⟩
    · have hnl : ¬ z1 = z2 := by rw [hz1, hz2]; exact hcl
      clear hz1 hz2 hcl
      go_wp2
      refine regionL (fun U => Below w10.heap.size w10 U) [] (by kernel_rfl) (Below.refl _ _).drew (fun hHeld => ?_)
      refine takeA (i := 0) (v := (.slice (some ⟨cb, co, none⟩) m.facts.length cc)) 75 rfl rfl (by kernel_rfl) (by kernel_rfl) (by kernel_rfl) (by kernel_rfl) (fun _ _ _ h => h) (Or.inl ⟨by rfl, by intro W hSw; go_simp⟩) hHeld ?_
      simp only [Act.put, zA, zB, zC]
      refine takeA (i := 1) (v := (.int .i64 a)) 76 rfl rfl (by kernel_rfl) (by kernel_rfl) (by kernel_rfl) (by kernel_rfl) (fun _ _ _ h => h) (Or.inl ⟨by rfl, by intro W hSw; go_simp⟩) hHeld ?_
      simp only [Act.put, zA, zB, zC]
      refine takeA (i := 4) (v := (.slice (some ⟨cb, co, none⟩) m.facts.length cc)) 79 rfl rfl (by kernel_rfl) (by kernel_rfl) (by kernel_rfl) (by kernel_rfl) (fun _ _ _ h => h) (Or.inl ⟨by rfl, by intro W hSw; go_simp⟩) hHeld ?_
      simp only [Act.put, zA, zB, zC]
      refine takeA (i := 5) (v := (.int .i64 b)) 80 rfl rfl (by kernel_rfl) (by kernel_rfl) (by kernel_rfl) (by kernel_rfl) (fun _ _ _ h => h) (Or.inl ⟨by rfl, by intro W hSw; go_simp⟩) hHeld ?_
      simp only [Act.put, zA, zB, zC]
      refine takeA (i := 2) (v := .pointer (some ⟨cb, co + a, none⟩)) 77 rfl rfl (by kernel_rfl) (by kernel_rfl) (by kernel_rfl) (by kernel_rfl) (fun _ _ _ h => h) (Or.inl ⟨by rfl, by intro W hSw; go_simp⟩) hHeld ?_
      simp only [Act.put, zA, zB, zC]
      refine takeA (i := 6) (v := .pointer (some ⟨cb, co + b, none⟩)) 81 rfl rfl (by kernel_rfl) (by kernel_rfl) (by kernel_rfl) (by kernel_rfl) (fun _ _ _ h => h) (Or.inl ⟨by rfl, by intro W hSw; go_simp⟩) hHeld ?_
      simp only [Act.put, zA, zB, zC]
      refine takeA (i := 3) (v := .int .i64 z1) 78 rfl rfl (by kernel_rfl) (by kernel_rfl) (by kernel_rfl) (by kernel_rfl) (fun _ _ _ h => h) (Or.inl ⟨by rfl, by intro W hSw; have c1 := HC1.out _ hSw; go_simp⟩) hHeld ?_
      simp only [Act.put, zA, zB, zC]
      refine takeA (i := 7) (v := .int .i64 z2) 82 rfl rfl (by kernel_rfl) (by kernel_rfl) (by kernel_rfl) (by kernel_rfl) (fun _ _ _ h => h) (Or.inl ⟨by rfl, by intro W hSw; have c1 := HC2.out _ hSw; go_simp⟩) hHeld ?_
      simp only [Act.put, zA, zB, zC]
      refine takeA (i := 8) (v := .bool true) 83 rfl rfl (by kernel_rfl) (by kernel_rfl) (by kernel_rfl) (by kernel_rfl) (fun _ _ _ h => h) (Or.inl ⟨by rfl, by intro W hSw; go_simp; try exact hnl⟩) hHeld ?_
      simp only [Act.put, zA, zB, zC]
      refine takeA (i := 9) (v := .bool true) 84 rfl rfl (by kernel_rfl) (by kernel_rfl) (by kernel_rfl) (by kernel_rfl) (fun _ _ _ h => h) (Or.inl ⟨by rfl, by intro W hSw; go_simp⟩) hHeld ?_
      simp only [Act.put, zA, zB, zC]
      refine takeA (i := 10) (v := undef) 85 rfl rfl (by kernel_rfl) (by kernel_rfl) (by kernel_rfl) (by kernel_rfl) (fun _ _ _ h => h) (Or.inr ⟨by rfl, rfl⟩) hHeld ?_
      simp only [Act.put, zA, zB, zC]
      refine takeA (i := 11) (v := undef) 86 rfl rfl (by kernel_rfl) (by kernel_rfl) (by kernel_rfl) (by kernel_rfl) (fun _ _ _ h => h) (Or.inr ⟨by rfl, rfl⟩) hHeld ?_
      simp only [Act.put, zA, zB, zC]
      refine takeA (i := 13) (v := undef) 88 rfl rfl (by kernel_rfl) (by kernel_rfl) (by kernel_rfl) (by kernel_rfl) (fun _ _ _ h => h) (Or.inr ⟨by rfl, rfl⟩) hHeld ?_
      simp only [Act.put, zA, zB, zC]
      refine takeA (i := 14) (v := undef) 89 rfl rfl (by kernel_rfl) (by kernel_rfl) (by kernel_rfl) (by kernel_rfl) (fun _ _ _ h => h) (Or.inr ⟨by rfl, rfl⟩) hHeld ?_
      simp only [Act.put, zA, zB, zC]
      refine takeA (i := 12) (v := undef) 87 rfl rfl (by kernel_rfl) (by kernel_rfl) (by kernel_rfl) (by kernel_rfl) (fun _ _ _ h => h) (Or.inr ⟨by rfl, rfl⟩) hHeld ?_
      simp only [Act.put, zA, zB, zC]
      refine takeA (i := 15) (v := undef) 90 rfl rfl (by kernel_rfl) (by kernel_rfl) (by kernel_rfl) (by kernel_rfl) (fun _ _ _ h => h) (Or.inr ⟨by rfl, rfl⟩) hHeld ?_
      simp only [Act.put, zA, zB, zC]
      refine takeA (i := 16) (v := undef) 91 rfl rfl (by kernel_rfl) (by kernel_rfl) (by kernel_rfl) (by kernel_rfl) (fun _ _ _ h => h) (Or.inr ⟨by rfl, rfl⟩) hHeld ?_
      simp only [Act.put, zA, zB, zC]
      refine takeA (i := 17) (v := .bool true) 92 rfl rfl (by kernel_rfl) (by kernel_rfl) (by kernel_rfl) (by kernel_rfl) (fun _ _ _ h => h) (Or.inl ⟨by rfl, by intro W hSw; go_simp⟩) hHeld ?_
      simp only [Act.put, zA, zB, zC]
      refine takeA (i := 18) (v := .bool true) 2 rfl rfl (by kernel_rfl) (by kernel_rfl) (by kernel_rfl) (by kernel_rfl) (fun _ _ _ h => h) (Or.inl ⟨by rfl, by intro W hSw; go_simp⟩) hHeld ?_
      simp only [Act.put, zA, zB, zC]
      refine doneL (by kernel_rfl) ?_ _
      try simp only [Act.put, zA, zB, zC]
      go_wp2
      go_ret
      exact ⟨rfl, B10.out.trans (hHeld.mono B10.out.size)⟩
theorem open_Slbyte {H : Type} {enc : TypeId × Value → H} (W : World) (base : Nat) (v : Value) (d : DataW H) (p : List MemPlace) (hv : Value.okWide Tryz.prog W .any base 37 v)
    (h : DataW.Trod enc Tryz.prog W 0 (fun _ => true) true 37 v d p) : ∃ len, InBytes W v len := by
  obtain ⟨a0, len0, cap0, rfl⟩ := okWide_slice Tryz.underlying37 hv
  obtain ⟨fuel, hf⟩ := h
  rcases Go.ChangeShapes.open_ints Tryz.underlying37 Tryz.underlying5 (by kernel_rfl) hf with ⟨hcs, _⟩ | ⟨x, l, c, zs, hcs, _, hl, hm, hz, _, hcell, hwz⟩
  · simp [Value.cells] at hcs
    obtain ⟨rfl, rfl, rfl⟩ := hcs
    exact ⟨0, none, 0, rfl, Nat.le_refl _, by decide, fun j hj => by omega⟩
  · simp [Value.cells] at hcs
    obtain ⟨rfl, rfl, rfl⟩ := hcs
    simp only [if_true] at hz
    refine ⟨len0, some x, cap0, rfl, hl, hm, fun j hj => ?_⟩
    obtain ⟨cb, co, rfl, hcc⟩ := _root_.Go.ints_at hcell (by omega)
    have hj' := hcc j (by omega)
    refine ⟨cb, co, zs.getD j 0, rfl, World.block_lt_of_cell? W _ hj', hj', ?_⟩
    have hb := range_u8 hwz j
    rw [List.getD_eq_getElem?_getD]
    exact hb
end Go.Proofs.YtnpfnfenkklocaaGreatDoor
