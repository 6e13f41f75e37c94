/-
  Contract of the method term of a linked formula: the term itself. Condition: the operations fit the forms.
-/
import Derived.Test.YtnpfnfenkklocaaAfi
namespace Go.Proofs.Ytnpfnfenkklocaa
open Go.RowKit Go.WideShapes
open Go Go.Deep
set_option linter.unusedSimpArgs false

set_option maxRecDepth 100000 in
set_option maxHeartbeats 16000000 in
theorem term_any (lo : Nat) : ∀ (t : Tm) (v : Value) (w : World), Lk lo w t v → t.ops →
    Calls Try.prog 37 #[v] w fun e w' => e = .returned (tv t) ∧ Below w.heap.size w w' := by
  have hz0 : (0 : Nat) + 1 ≤ maxLen := by decide
  have hz1 : (0 + 1) * 16 ≤ 140737488355328 := by decide
  have hy1 : (1 : Nat) + 1 ≤ maxLen := by decide
  have hy2 : (1 + 1) * 16 ≤ 140737488355328 := by decide
  intro t
  induction t with
  | leaf op n =>
    intro v w h ho
    obtain ⟨b, sl, rfl, hbl, hcs, us, hr, rfl⟩ := h.cells
    obtain ⟨pa, pc, rfl, -⟩ := hr
    have KT := Lib.hid (fun v W => newTerm_0 op n v W ho)
    have HC := Lib.hid hcs
    have B0 := Lib.hid (Below.refl w.heap.size w)
    obtain ⟨c0, c1, c2⟩ := hcs w (Below.refl _ _)
    clear hcs h ho hz0 hz1 hy1 hy2 c0 c1
    generalize tv (.leaf op n) = R at *
    go_enter Try.func37, Try.ntmps37
    go_wp2
    clear c2
    refine wp_loop_rounds 1 ?_
    rw [rounds_succ]
    go_wp2
    have HCW := Lib.hid (fun U (h : Below w.heap.size w U) => HC.out U (B0.out.trans (h.mono B0.out.size)))
    refine regionL (fun U => Below w.heap.size w U) [] (by kernel_rfl) (Below.refl _ _).drew (fun hHeld => ?_)
    refine takeA (i := 0) (v := .pointer (some ⟨b, 0, none⟩)) 21 rfl rfl (by kernel_rfl) (by kernel_rfl) (by kernel_rfl) (by kernel_rfl) (fun _ _ _ h => h) (Or.inl ⟨by rfl, by intro W hSw; go_simp⟩) hHeld ?_
    simp only [Act.put, List.setIfInBounds_toArray, List.set_cons_zero, List.set_cons_succ]
    refine takeA (i := 1) (v := .pointer (some ⟨b, 0, none⟩)) 22 rfl rfl (by kernel_rfl) (by kernel_rfl) (by kernel_rfl) (by kernel_rfl) (fun _ _ _ h => h) (Or.inl ⟨by rfl, by intro W hSw; go_simp⟩) hHeld ?_
    simp only [Act.put, List.setIfInBounds_toArray, List.set_cons_zero, List.set_cons_succ]
    refine takeA (i := 2) (v := .pointer (some ⟨b, 0, none⟩)) 23 rfl rfl (by kernel_rfl) (by kernel_rfl) (by kernel_rfl) (by kernel_rfl) (fun _ _ _ h => h) (Or.inl ⟨by rfl, by intro W hSw; go_simp⟩) hHeld ?_
    simp only [Act.put, List.setIfInBounds_toArray, List.set_cons_zero, List.set_cons_succ]
    refine takeA (i := 3) (v := .int .i64 op) 24 rfl rfl (by kernel_rfl) (by kernel_rfl) (by kernel_rfl) (by kernel_rfl) (fun _ _ _ h => h) (Or.inl ⟨by rfl, by intro W hSw; have c1 := (HCW.out _ hSw).1; go_simp; rfl⟩) hHeld ?_
    simp only [Act.put, List.setIfInBounds_toArray, List.set_cons_zero, List.set_cons_succ]
    refine takeA (i := 4) (v := .pointer (some ⟨b, 0, none⟩)) 25 rfl rfl (by kernel_rfl) (by kernel_rfl) (by kernel_rfl) (by kernel_rfl) (fun _ _ _ h => h) (Or.inl ⟨by rfl, by intro W hSw; go_simp⟩) hHeld ?_
    simp only [Act.put, List.setIfInBounds_toArray, List.set_cons_zero, List.set_cons_succ]
    refine takeA (i := 5) (v := .pointer (some ⟨b, 0, none⟩)) 26 rfl rfl (by kernel_rfl) (by kernel_rfl) (by kernel_rfl) (by kernel_rfl) (fun _ _ _ h => h) (Or.inl ⟨by rfl, by intro W hSw; go_simp⟩) hHeld ?_
    simp only [Act.put, List.setIfInBounds_toArray, List.set_cons_zero, List.set_cons_succ]
    refine takeA (i := 6) (v := .pointer (some ⟨b, 1, none⟩)) 27 rfl rfl (by kernel_rfl) (by kernel_rfl) (by kernel_rfl) (by kernel_rfl) (fun _ _ _ h => h) (Or.inl ⟨by rfl, by intro W hSw; go_simp⟩) hHeld ?_
    simp only [Act.put, List.setIfInBounds_toArray, List.set_cons_zero, List.set_cons_succ]
    refine takeA (i := 7) (v := .int .i64 n) 28 rfl rfl (by kernel_rfl) (by kernel_rfl) (by kernel_rfl) (by kernel_rfl) (fun _ _ _ h => h) (Or.inl ⟨by rfl, by intro W hSw; have c1 := (HCW.out _ hSw).2.1; go_simp; rfl⟩) hHeld ?_
    simp only [Act.put, List.setIfInBounds_toArray, List.set_cons_zero, List.set_cons_succ]
    refine takeA (i := 8) (v := .slice none 0 0) 29 rfl rfl (by kernel_rfl) (by kernel_rfl) (by kernel_rfl) (by kernel_rfl) (fun _ _ _ h => h) (Or.inl ⟨by rfl, by intro W hSw; go_simp⟩) hHeld ?_
    simp only [Act.put, List.setIfInBounds_toArray, List.set_cons_zero, List.set_cons_succ]
    generalize (World.drew _) = wd at hHeld ⊢
    refine onlyL (i := 9) (by kernel_rfl) rfl (by rfl) (fun K hK => ?_)
    go_simp
    refine (KT.out _ _).mono ?_
    rintro e w9 ⟨rfl, rfl⟩
    have t9 := hHeld
    clear hHeld
    refine hK.out _ _ (fun _ => t9) (fun _ => ?_)
    clear hK K
    have hHeld := t9
    try simp only [Act.put, List.setIfInBounds_toArray, List.set_cons_zero, List.set_cons_succ]
    refine takeA (i := 10) (v := R) 2 rfl rfl (by kernel_rfl) (by kernel_rfl) (by kernel_rfl) (by kernel_rfl) (fun _ _ _ h => h) (Or.inl ⟨by rfl, by intro W hSw; go_simp⟩) hHeld ?_
    simp only [Act.put, List.setIfInBounds_toArray, List.set_cons_zero, List.set_cons_succ]
    clear hHeld
    refine doneL (by kernel_rfl) ?_ _
    try simp only [Act.put, List.setIfInBounds_toArray, List.set_cons_zero, List.set_cons_succ]
    go_wp2
    go_ret
    exact ⟨rfl, B0.out.trans (t9.mono B0.out.size)⟩
  | deny a ih =>
    intro v w h ho
    obtain ⟨b, g, o, cc, u, rfl, hbl, hgl, hc1, hc2, hcs, hu⟩ := h.part1 (a := a) rfl
    unfold maxLen at hc2
    have KD := Lib.hid (ih u w hu ho)
    have KT := Lib.hid (fun v W h => newTerm_3 0 v a W h)
    generalize tv (Tm.deny a) = R at *
    obtain ⟨bu, rfl, -⟩ := hu.ptr
    obtain ⟨ty, pv, hx⟩ := tv_form a
    rw [hx] at KD KT
    clear hx
    have HC := Lib.hid hcs
    obtain ⟨c0, c1, c2, c3⟩ := hcs w (Below.refl _ _)
    clear hcs h hu ih ho hy1 hy2 c0 c1
    go_enter Try.func37, Try.ntmps37
    go_wp2
    clear c2
    refine wp_loop_rounds 2 ?_
    rw [rounds_succ]
    go_wp2_with fail
    refine KD.out.mono ?_
    rintro e w1 ⟨rfl, hb1⟩
    have B1 := Lib.hid hb1
    clear hb1 c3
    go_wp2_with (at_builtin; refine wpList_push rfl _ _ 74 rfl 49 .nilIface 16 Try.underlying74 Try.infoTm rfl w1.heap.size w1 (.iface ty pv) (.slice none 0 0) 0 [] (World.ownsRow_nil _ _ _ _) rfl rfl rfl hz0 hz1 (Nat.le_refl _) ?_; intro v' w4 hown hbp _; have HO := Lib.hid hown; have BP := Lib.hid hbp; clear hown hbp)
    have B4 := Lib.hid (B1.out.trans (BP.out.mono B1.out.size))
    have HO := Lib.hid (Rs.of_own HO.out)
    rw [rounds_succ]
    go_wp2
    have HCW := Lib.hid (fun U (h : Below w4.heap.size w4 U) => HC.out U (B4.out.trans (h.mono B4.out.size)))
    refine regionL (fun U => Below w4.heap.size w4 U) [] (by kernel_rfl) (Below.refl _ _).drew (fun hHeld => ?_)
    refine takeA (i := 0) (v := .pointer (some ⟨b, 0, none⟩)) 21 rfl rfl (by kernel_rfl) (by kernel_rfl) (by kernel_rfl) (by kernel_rfl) (fun _ _ _ h => h) (Or.inl ⟨by rfl, by intro W hSw; go_simp⟩) hHeld ?_
    simp only [Act.put, List.setIfInBounds_toArray, List.set_cons_zero, List.set_cons_succ]
    refine takeA (i := 1) (v := .pointer (some ⟨b, 0, none⟩)) 22 rfl rfl (by kernel_rfl) (by kernel_rfl) (by kernel_rfl) (by kernel_rfl) (fun _ _ _ h => h) (Or.inl ⟨by rfl, by intro W hSw; go_simp⟩) hHeld ?_
    simp only [Act.put, List.setIfInBounds_toArray, List.set_cons_zero, List.set_cons_succ]
    refine takeA (i := 2) (v := .pointer (some ⟨b, 0, none⟩)) 23 rfl rfl (by kernel_rfl) (by kernel_rfl) (by kernel_rfl) (by kernel_rfl) (fun _ _ _ h => h) (Or.inl ⟨by rfl, by intro W hSw; go_simp⟩) hHeld ?_
    simp only [Act.put, List.setIfInBounds_toArray, List.set_cons_zero, List.set_cons_succ]
    refine takeA (i := 3) (v := .int .i64 3) 24 rfl rfl (by kernel_rfl) (by kernel_rfl) (by kernel_rfl) (by kernel_rfl) (fun _ _ _ h => h) (Or.inl ⟨by rfl, by intro W hSw; have c1 := (HCW.out _ hSw).1; go_simp; rfl⟩) hHeld ?_
    simp only [Act.put, List.setIfInBounds_toArray, List.set_cons_zero, List.set_cons_succ]
    refine takeA (i := 4) (v := .pointer (some ⟨b, 0, none⟩)) 25 rfl rfl (by kernel_rfl) (by kernel_rfl) (by kernel_rfl) (by kernel_rfl) (fun _ _ _ h => h) (Or.inl ⟨by rfl, by intro W hSw; go_simp⟩) hHeld ?_
    simp only [Act.put, List.setIfInBounds_toArray, List.set_cons_zero, List.set_cons_succ]
    refine takeA (i := 5) (v := .pointer (some ⟨b, 0, none⟩)) 26 rfl rfl (by kernel_rfl) (by kernel_rfl) (by kernel_rfl) (by kernel_rfl) (fun _ _ _ h => h) (Or.inl ⟨by rfl, by intro W hSw; go_simp⟩) hHeld ?_
    simp only [Act.put, List.setIfInBounds_toArray, List.set_cons_zero, List.set_cons_succ]
    refine takeA (i := 6) (v := .pointer (some ⟨b, 1, none⟩)) 27 rfl rfl (by kernel_rfl) (by kernel_rfl) (by kernel_rfl) (by kernel_rfl) (fun _ _ _ h => h) (Or.inl ⟨by rfl, by intro W hSw; go_simp⟩) hHeld ?_
    simp only [Act.put, List.setIfInBounds_toArray, List.set_cons_zero, List.set_cons_succ]
    refine takeA (i := 7) (v := .int .i64 0) 28 rfl rfl (by kernel_rfl) (by kernel_rfl) (by kernel_rfl) (by kernel_rfl) (fun _ _ _ h => h) (Or.inl ⟨by rfl, by intro W hSw; have c1 := (HCW.out _ hSw).2.1; go_simp; rfl⟩) hHeld ?_
    simp only [Act.put, List.setIfInBounds_toArray, List.set_cons_zero, List.set_cons_succ]
    refine takeA (i := 8) (v := v') 29 rfl rfl (by kernel_rfl) (by kernel_rfl) (by kernel_rfl) (by kernel_rfl) (fun _ _ _ h => h) (Or.inl ⟨by rfl, by intro W hSw; go_simp⟩) hHeld ?_
    simp only [Act.put, List.setIfInBounds_toArray, List.set_cons_zero, List.set_cons_succ]
    generalize (World.drew _) = wd at hHeld ⊢
    refine onlyL (i := 9) (by kernel_rfl) rfl (by rfl) (fun K hK => ?_)
    go_simp
    refine (KT.out _ _ (HO.out.below hHeld (Nat.le_refl _))).mono ?_
    rintro e w9 ⟨rfl, rfl⟩
    have t9 := hHeld
    clear hHeld
    refine hK.out _ _ (fun _ => t9) (fun _ => ?_)
    clear hK K
    have hHeld := t9
    try simp only [Act.put, List.setIfInBounds_toArray, List.set_cons_zero, List.set_cons_succ]
    refine takeA (i := 10) (v := R) 2 rfl rfl (by kernel_rfl) (by kernel_rfl) (by kernel_rfl) (by kernel_rfl) (fun _ _ _ h => h) (Or.inl ⟨by rfl, by intro W hSw; go_simp⟩) hHeld ?_
    simp only [Act.put, List.setIfInBounds_toArray, List.set_cons_zero, List.set_cons_succ]
    clear hHeld
    refine doneL (by kernel_rfl) ?_ _
    try simp only [Act.put, List.setIfInBounds_toArray, List.set_cons_zero, List.set_cons_succ]
    go_wp2
    go_ret
    exact ⟨rfl, B4.out.trans (t9.mono B4.out.size)⟩
  | know op n a ih =>
    intro v w h ho
    obtain ⟨b, g, o, cc, u, rfl, hbl, hgl, hc1, hc2, hcs, hu⟩ := h.part1 (a := a) rfl
    unfold maxLen at hc2
    have KD := Lib.hid (ih u w hu ho.2)
    have KT := Lib.hid (fun v W h => newTerm_1 op n v a W (by have := ho.1; omega) h)
    generalize tv (Tm.know op n a) = R at *
    obtain ⟨bu, rfl, -⟩ := hu.ptr
    obtain ⟨ty, pv, hx⟩ := tv_form a
    rw [hx] at KD KT
    clear hx
    have HC := Lib.hid hcs
    obtain ⟨c0, c1, c2, c3⟩ := hcs w (Below.refl _ _)
    clear hcs h hu ih ho hy1 hy2 c0 c1
    go_enter Try.func37, Try.ntmps37
    go_wp2
    clear c2
    refine wp_loop_rounds 2 ?_
    rw [rounds_succ]
    go_wp2_with fail
    refine KD.out.mono ?_
    rintro e w1 ⟨rfl, hb1⟩
    have B1 := Lib.hid hb1
    clear hb1 c3
    go_wp2_with (at_builtin; refine wpList_push rfl _ _ 74 rfl 49 .nilIface 16 Try.underlying74 Try.infoTm rfl w1.heap.size w1 (.iface ty pv) (.slice none 0 0) 0 [] (World.ownsRow_nil _ _ _ _) rfl rfl rfl hz0 hz1 (Nat.le_refl _) ?_; intro v' w4 hown hbp _; have HO := Lib.hid hown; have BP := Lib.hid hbp; clear hown hbp)
    have B4 := Lib.hid (B1.out.trans (BP.out.mono B1.out.size))
    have HO := Lib.hid (Rs.of_own HO.out)
    rw [rounds_succ]
    go_wp2
    have HCW := Lib.hid (fun U (h : Below w4.heap.size w4 U) => HC.out U (B4.out.trans (h.mono B4.out.size)))
    refine regionL (fun U => Below w4.heap.size w4 U) [] (by kernel_rfl) (Below.refl _ _).drew (fun hHeld => ?_)
    refine takeA (i := 0) (v := .pointer (some ⟨b, 0, none⟩)) 21 rfl rfl (by kernel_rfl) (by kernel_rfl) (by kernel_rfl) (by kernel_rfl) (fun _ _ _ h => h) (Or.inl ⟨by rfl, by intro W hSw; go_simp⟩) hHeld ?_
    simp only [Act.put, List.setIfInBounds_toArray, List.set_cons_zero, List.set_cons_succ]
    refine takeA (i := 1) (v := .pointer (some ⟨b, 0, none⟩)) 22 rfl rfl (by kernel_rfl) (by kernel_rfl) (by kernel_rfl) (by kernel_rfl) (fun _ _ _ h => h) (Or.inl ⟨by rfl, by intro W hSw; go_simp⟩) hHeld ?_
    simp only [Act.put, List.setIfInBounds_toArray, List.set_cons_zero, List.set_cons_succ]
    refine takeA (i := 2) (v := .pointer (some ⟨b, 0, none⟩)) 23 rfl rfl (by kernel_rfl) (by kernel_rfl) (by kernel_rfl) (by kernel_rfl) (fun _ _ _ h => h) (Or.inl ⟨by rfl, by intro W hSw; go_simp⟩) hHeld ?_
    simp only [Act.put, List.setIfInBounds_toArray, List.set_cons_zero, List.set_cons_succ]
    refine takeA (i := 3) (v := .int .i64 op) 24 rfl rfl (by kernel_rfl) (by kernel_rfl) (by kernel_rfl) (by kernel_rfl) (fun _ _ _ h => h) (Or.inl ⟨by rfl, by intro W hSw; have c1 := (HCW.out _ hSw).1; go_simp; rfl⟩) hHeld ?_
    simp only [Act.put, List.setIfInBounds_toArray, List.set_cons_zero, List.set_cons_succ]
    refine takeA (i := 4) (v := .pointer (some ⟨b, 0, none⟩)) 25 rfl rfl (by kernel_rfl) (by kernel_rfl) (by kernel_rfl) (by kernel_rfl) (fun _ _ _ h => h) (Or.inl ⟨by rfl, by intro W hSw; go_simp⟩) hHeld ?_
    simp only [Act.put, List.setIfInBounds_toArray, List.set_cons_zero, List.set_cons_succ]
    refine takeA (i := 5) (v := .pointer (some ⟨b, 0, none⟩)) 26 rfl rfl (by kernel_rfl) (by kernel_rfl) (by kernel_rfl) (by kernel_rfl) (fun _ _ _ h => h) (Or.inl ⟨by rfl, by intro W hSw; go_simp⟩) hHeld ?_
    simp only [Act.put, List.setIfInBounds_toArray, List.set_cons_zero, List.set_cons_succ]
    refine takeA (i := 6) (v := .pointer (some ⟨b, 1, none⟩)) 27 rfl rfl (by kernel_rfl) (by kernel_rfl) (by kernel_rfl) (by kernel_rfl) (fun _ _ _ h => h) (Or.inl ⟨by rfl, by intro W hSw; go_simp⟩) hHeld ?_
    simp only [Act.put, List.setIfInBounds_toArray, List.set_cons_zero, List.set_cons_succ]
    refine takeA (i := 7) (v := .int .i64 n) 28 rfl rfl (by kernel_rfl) (by kernel_rfl) (by kernel_rfl) (by kernel_rfl) (fun _ _ _ h => h) (Or.inl ⟨by rfl, by intro W hSw; have c1 := (HCW.out _ hSw).2.1; go_simp; rfl⟩) hHeld ?_
    simp only [Act.put, List.setIfInBounds_toArray, List.set_cons_zero, List.set_cons_succ]
    refine takeA (i := 8) (v := v') 29 rfl rfl (by kernel_rfl) (by kernel_rfl) (by kernel_rfl) (by kernel_rfl) (fun _ _ _ h => h) (Or.inl ⟨by rfl, by intro W hSw; go_simp⟩) hHeld ?_
    simp only [Act.put, List.setIfInBounds_toArray, List.set_cons_zero, List.set_cons_succ]
    generalize (World.drew _) = wd at hHeld ⊢
    refine onlyL (i := 9) (by kernel_rfl) rfl (by rfl) (fun K hK => ?_)
    go_simp
    refine (KT.out _ _ (HO.out.below hHeld (Nat.le_refl _))).mono ?_
    rintro e w9 ⟨rfl, rfl⟩
    have t9 := hHeld
    clear hHeld
    refine hK.out _ _ (fun _ => t9) (fun _ => ?_)
    clear hK K
    have hHeld := t9
    try simp only [Act.put, List.setIfInBounds_toArray, List.set_cons_zero, List.set_cons_succ]
    refine takeA (i := 10) (v := R) 2 rfl rfl (by kernel_rfl) (by kernel_rfl) (by kernel_rfl) (by kernel_rfl) (fun _ _ _ h => h) (Or.inl ⟨by rfl, by intro W hSw; go_simp⟩) hHeld ?_
    simp only [Act.put, List.setIfInBounds_toArray, List.set_cons_zero, List.set_cons_succ]
    clear hHeld
    refine doneL (by kernel_rfl) ?_ _
    try simp only [Act.put, List.setIfInBounds_toArray, List.set_cons_zero, List.set_cons_succ]
    go_wp2
    go_ret
    exact ⟨rfl, B4.out.trans (t9.mono B4.out.size)⟩
  | joint op a a' iha ihb =>
    intro v w h ho
    obtain ⟨b, g, o, cc, u, u', rfl, hbl, hgl, hc1, hc2, hcs, hu, hu'⟩ := h.part2 (a := a) (a' := a') rfl
    unfold maxLen at hc2
    have KD := Lib.hid (iha u w hu ho.2.1)
    have KE := Lib.hid (fun W (hW : Below w.heap.size w W) => ihb u' W (hu'.below hW) ho.2.2)
    have KT := Lib.hid (fun v W h => newTerm_2 op 0 v a a' W ho.1 h)
    generalize tv (Tm.joint op a a') = R at *
    obtain ⟨bu, rfl, -⟩ := hu.ptr
    obtain ⟨bu', rfl, -⟩ := hu'.ptr
    obtain ⟨ty, pv, hx⟩ := tv_form a
    rw [hx] at KD KT
    clear hx
    obtain ⟨ty', pv', hx⟩ := tv_form a'
    rw [hx] at KE KT
    clear hx
    have HC := Lib.hid hcs
    obtain ⟨c0, c1, c2, c3, c4⟩ := hcs w (Below.refl _ _)
    clear hcs h hu hu' iha ihb ho c0 c1 c4
    go_enter Try.func37, Try.ntmps37
    go_wp2
    clear c2
    refine wp_loop_rounds 3 ?_
    rw [rounds_succ]
    go_wp2_with fail
    refine KD.out.mono ?_
    rintro e w1 ⟨rfl, hb1⟩
    have B1 := Lib.hid hb1
    clear hb1 c3
    go_wp2_with (at_builtin; refine wpList_push rfl _ _ 74 rfl 49 .nilIface 16 Try.underlying74 Try.infoTm rfl w1.heap.size w1 (.iface ty pv) (.slice none 0 0) 0 [] (World.ownsRow_nil _ _ _ _) rfl rfl rfl hz0 hz1 (Nat.le_refl _) ?_; intro v' w4 hown hbp _; have HO := Lib.hid hown; have BP := Lib.hid hbp; clear hown hbp)
    have hz14 := BP.out.size
    have B4 := Lib.hid (B1.out.trans (BP.out.mono B1.out.size))
    have c4 := (HC.out w4 B4.out).2.2.2.2
    rw [rounds_succ]
    go_wp2_with fail
    refine (KE.out _ B4.out).mono ?_
    rintro e w5 ⟨rfl, hb5⟩
    have HO5 := Lib.hid (own_below HO.out hb5 (Nat.le_refl _))
    have B5 := Lib.hid (B4.out.trans (hb5.mono B4.out.size))
    have hz15 : w1.heap.size ≤ w5.heap.size := Nat.le_trans hz14 hb5.size
    clear hb5 c4
    go_wp2_with (at_builtin; refine wpList_push rfl _ _ 74 rfl 49 .nilIface 16 Try.underlying74 Try.infoTm rfl w1.heap.size w5 (.iface ty' pv') v' 1 [.iface ty pv] HO5.out rfl rfl rfl hy1 hy2 hz15 ?_; intro v'' w6 hown hbp _; have HO6 := Lib.hid hown; have BP6 := Lib.hid hbp; clear hown hbp)
    have B6 := Lib.hid (B5.out.trans (BP6.out.mono B1.out.size))
    have HO6 := Lib.hid (Rs.of_own HO6.out)
    rw [rounds_succ]
    go_wp2
    have HCW := Lib.hid (fun U (h : Below w6.heap.size w6 U) => HC.out U (B6.out.trans (h.mono B6.out.size)))
    refine regionL (fun U => Below w6.heap.size w6 U) [] (by kernel_rfl) (Below.refl _ _).drew (fun hHeld => ?_)
    refine takeA (i := 0) (v := .pointer (some ⟨b, 0, none⟩)) 21 rfl rfl (by kernel_rfl) (by kernel_rfl) (by kernel_rfl) (by kernel_rfl) (fun _ _ _ h => h) (Or.inl ⟨by rfl, by intro W hSw; go_simp⟩) hHeld ?_
    simp only [Act.put, List.setIfInBounds_toArray, List.set_cons_zero, List.set_cons_succ]
    refine takeA (i := 1) (v := .pointer (some ⟨b, 0, none⟩)) 22 rfl rfl (by kernel_rfl) (by kernel_rfl) (by kernel_rfl) (by kernel_rfl) (fun _ _ _ h => h) (Or.inl ⟨by rfl, by intro W hSw; go_simp⟩) hHeld ?_
    simp only [Act.put, List.setIfInBounds_toArray, List.set_cons_zero, List.set_cons_succ]
    refine takeA (i := 2) (v := .pointer (some ⟨b, 0, none⟩)) 23 rfl rfl (by kernel_rfl) (by kernel_rfl) (by kernel_rfl) (by kernel_rfl) (fun _ _ _ h => h) (Or.inl ⟨by rfl, by intro W hSw; go_simp⟩) hHeld ?_
    simp only [Act.put, List.setIfInBounds_toArray, List.set_cons_zero, List.set_cons_succ]
    refine takeA (i := 3) (v := .int .i64 op) 24 rfl rfl (by kernel_rfl) (by kernel_rfl) (by kernel_rfl) (by kernel_rfl) (fun _ _ _ h => h) (Or.inl ⟨by rfl, by intro W hSw; have c1 := (HCW.out _ hSw).1; go_simp; rfl⟩) hHeld ?_
    simp only [Act.put, List.setIfInBounds_toArray, List.set_cons_zero, List.set_cons_succ]
    refine takeA (i := 4) (v := .pointer (some ⟨b, 0, none⟩)) 25 rfl rfl (by kernel_rfl) (by kernel_rfl) (by kernel_rfl) (by kernel_rfl) (fun _ _ _ h => h) (Or.inl ⟨by rfl, by intro W hSw; go_simp⟩) hHeld ?_
    simp only [Act.put, List.setIfInBounds_toArray, List.set_cons_zero, List.set_cons_succ]
    refine takeA (i := 5) (v := .pointer (some ⟨b, 0, none⟩)) 26 rfl rfl (by kernel_rfl) (by kernel_rfl) (by kernel_rfl) (by kernel_rfl) (fun _ _ _ h => h) (Or.inl ⟨by rfl, by intro W hSw; go_simp⟩) hHeld ?_
    simp only [Act.put, List.setIfInBounds_toArray, List.set_cons_zero, List.set_cons_succ]
    refine takeA (i := 6) (v := .pointer (some ⟨b, 1, none⟩)) 27 rfl rfl (by kernel_rfl) (by kernel_rfl) (by kernel_rfl) (by kernel_rfl) (fun _ _ _ h => h) (Or.inl ⟨by rfl, by intro W hSw; go_simp⟩) hHeld ?_
    simp only [Act.put, List.setIfInBounds_toArray, List.set_cons_zero, List.set_cons_succ]
    refine takeA (i := 7) (v := .int .i64 0) 28 rfl rfl (by kernel_rfl) (by kernel_rfl) (by kernel_rfl) (by kernel_rfl) (fun _ _ _ h => h) (Or.inl ⟨by rfl, by intro W hSw; have c1 := (HCW.out _ hSw).2.1; go_simp; rfl⟩) hHeld ?_
    simp only [Act.put, List.setIfInBounds_toArray, List.set_cons_zero, List.set_cons_succ]
    refine takeA (i := 8) (v := v'') 29 rfl rfl (by kernel_rfl) (by kernel_rfl) (by kernel_rfl) (by kernel_rfl) (fun _ _ _ h => h) (Or.inl ⟨by rfl, by intro W hSw; go_simp⟩) hHeld ?_
    simp only [Act.put, List.setIfInBounds_toArray, List.set_cons_zero, List.set_cons_succ]
    generalize (World.drew _) = wd at hHeld ⊢
    refine onlyL (i := 9) (by kernel_rfl) rfl (by rfl) (fun K hK => ?_)
    go_simp
    refine (KT.out _ _ (HO6.out.below hHeld (Nat.le_refl _))).mono ?_
    rintro e w9 ⟨rfl, hb9⟩
    have t9 : Below w6.heap.size w6 w9 := hHeld.trans (hb9.mono hHeld.size)
    clear hb9 hHeld
    refine hK.out _ _ (fun _ => t9) (fun _ => ?_)
    clear hK K
    have hHeld := t9
    try simp only [Act.put, List.setIfInBounds_toArray, List.set_cons_zero, List.set_cons_succ]
    refine takeA (i := 10) (v := R) 2 rfl rfl (by kernel_rfl) (by kernel_rfl) (by kernel_rfl) (by kernel_rfl) (fun _ _ _ h => h) (Or.inl ⟨by rfl, by intro W hSw; go_simp⟩) hHeld ?_
    simp only [Act.put, List.setIfInBounds_toArray, List.set_cons_zero, List.set_cons_succ]
    clear hHeld
    refine doneL (by kernel_rfl) ?_ _
    try simp only [Act.put, List.setIfInBounds_toArray, List.set_cons_zero, List.set_cons_succ]
    go_wp2
    go_ret
    exact ⟨rfl, B6.out.trans (t9.mono B6.out.size)⟩
end Go.Proofs.Ytnpfnfenkklocaa
