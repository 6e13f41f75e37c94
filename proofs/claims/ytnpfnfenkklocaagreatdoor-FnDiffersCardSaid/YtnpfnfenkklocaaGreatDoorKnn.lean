/- Knn -/
import Derived.Test.YtnpfnfenkklocaaGreatDoorDal
set_option maxRecDepth 100000
set_option maxHeartbeats 64000000
namespace Go.Proofs.YtnpfnfenkklocaaGreatDoor
open Go.RowKit Go.WideShapes
open Go Go.Deep
set_option linter.unusedSimpArgs false
theorem knownNot_any (G : List Int) (hG : G.length = 67) (sv : Value) (C : Tm) (x k : Nat) (q : Nat → Bool) (w : World) (hC : C.wf)
    (hA : ∀ W lo hi vv, Below w.heap.size w W → Iv lo hi W vv (nums (lst q 16)) → Calls Tryz.prog 99 #[.agg (ints G).toArray, sv, .int .i64 x, vv] W (Ans W (combL C))) :
    Calls Tryz.prog 70 #[.agg (ints G).toArray, sv, .int .i64 k, .int .i64 x, .agg (bL q).toArray] w (Ans w (combL (.know 5 (k : Int) (.deny C)))) := by
  have HL : Hid ((ints G).length = 67) := hid (by rw [ints_len]; exact hG)
  have KL := hid (fun W => setList_any q W)
  unfold IntsAns at KL
  have KA := hid hA
  have hUg : Tryz.prog.underlying 59 = some _ := Tryz.underlying59
  have hUs : Tryz.prog.underlying 79 = some _ := Tryz.underlying79
  have c0 : Hid (Cm ((w.alloc (.cells (ints G).toArray 59)).alloc (.cells (bL q).toArray 79)) w.heap.size 59 (ints G)) := hid ((Cm.new rfl).alloc _)
  have s0 : Hid (Cm ((w.alloc (.cells (ints G).toArray 59)).alloc (.cells (bL q).toArray 79)) (w.heap.size + 1) 79 (bL q)) := hid (Cm.new (by simp))
  generalize lst q 16 = LQ at *
  clear hA
  have hDC : (Tm.deny C).wf := hC
  rcases comb_cases hC with ⟨k1, k2, k3, k4⟩ | ⟨k1, k2⟩
  · rw [k1] at KA
    have KN := hid (fun u W hu => implNegate_any u (lay 0 C) W hu)
    rw [k2, k3] at KN
    simp only [if_true] at KN
    rcases comb_cases hDC with ⟨j1, j2, j3, j4⟩ | ⟨j1, j2⟩
    · rw [j1] at KN
      have KK := hid (fun u W hu => implKnown_any (k : Int) u (lay 0 (.deny C)) W hu)
      rw [j2, j3] at KK
      simp only [if_true] at KK
      unfold Ans at KA KN KK ⊢
      simp only [Option.isSome_some, Option.getD_some] at KA KN
      generalize combL (.know 5 (k : Int) (.deny C)) = R at *
      generalize hR1 : R.isSome = ok at *
      generalize hR2 : R.getD [] = zs at *
      generalize lay 0 C = xs at *
      generalize lay 0 (.deny C) = ys at *
      clear hR1 hR2 k1 k2 k3 k4 j1 j2 j3 j4 hC hDC
      go_enter Tryz.func70, Tryz.ntmps70
      go_wp2
      have b0 : Below w.heap.size w ((w.alloc (.cells (ints G).toArray 59)).alloc (.cells (bL q).toArray 79)) := by go_grown
      generalize (w.alloc (.cells (ints G).toArray 59)).alloc (.cells (bL q).toArray 79) = w1 at *
      have B1 := hid b0
      clear b0
      have HGW : Hid (∀ W, Below w1.heap.size w1 W → W.rangeAt w.heap.size 0 (ints G)) := hid (fun W hW => (c0.out.all hW).whole)
      have HSW : Hid (∀ W, Below w1.heap.size w1 W → W.rangeAt (w.heap.size + 1) 0 (bL q)) := hid (fun W hW => (s0.out.all hW).whole)
      refine regionL (fun W => Below w1.heap.size w1 W) [] (by kernel_rfl) (Below.refl _ _).drew (fun hHeld => ?_)
      refine takeA (i := 0) (v := .agg (ints G).toArray) 16 rfl rfl (by kernel_rfl) (by kernel_rfl) (by kernel_rfl) (by kernel_rfl) (fun _ _ _ h => h) (yieldsIf_load_mid (by rfl) 59 _ rfl w.heap.size 0 rfl (ints G) _ HGW.out hUg rfl (by rw [HL.out]; exact Tryz.sizeGrid)) hHeld ?_
      simp only [Act.put, zA, zB, zC]
      refine takeA (i := 1) (v := sv) 17 rfl rfl (by kernel_rfl) (by kernel_rfl) (by kernel_rfl) (by kernel_rfl) (fun _ _ _ h => h) (Or.inl ⟨by rfl, by intro W hSw; go_simp⟩) hHeld ?_
      simp only [Act.put, zA, zB, zC]
      refine takeA (i := 2) (v := .int .i64 x) 18 rfl rfl (by kernel_rfl) (by kernel_rfl) (by kernel_rfl) (by kernel_rfl) (fun _ _ _ h => h) (Or.inl ⟨by rfl, by intro W hSw; go_simp⟩) hHeld ?_
      simp only [Act.put, zA, zB, zC]
      refine takeA (i := 3) (v := .agg (bL q).toArray) 19 rfl rfl (by kernel_rfl) (by kernel_rfl) (by kernel_rfl) (by kernel_rfl) (fun _ _ _ h => h) (yieldsIf_load_mid (by rfl) 79 _ rfl (w.heap.size + 1) 0 rfl (bL q) _ HSW.out hUs rfl (by rw [bL_len]; exact Tryz.sizeSet)) hHeld ?_
      simp only [Act.put, zA, zB, zC]
      generalize w1.drew = wd at hHeld ⊢
      refine onlyL (i := 4) (by kernel_rfl) rfl (by rfl) (fun K hK => ?_)
      go_simp
      refine (KL.out _).mono ?_
      rintro e w4 ⟨v4, rfl, ho4, hb4⟩
      have t4 : Below w1.heap.size w1 w4 := hHeld.trans (hb4.mono hHeld.size)
      have I4 := hid ho4.read
      clear ho4 hb4 hHeld
      refine hK.out _ _ (fun _ => t4) (fun _ => ?_)
      clear hK K
      try simp only [Act.put, zA, zB, zC]
      refine onlyL (i := 5) (by kernel_rfl) rfl (by rfl) (fun K hK => ?_)
      go_simp
      refine (KA.out _ _ _ _ (B1.out.trans (t4.mono B1.out.size)) I4.out).mono ?_
      rintro e w5 ⟨v5, rfl, ho5, hb5⟩
      have t5 : Below w1.heap.size w1 w5 := t4.trans (hb5.mono t4.size)
      have O5 := hid (own_mono ho5 (Nat.le_trans B1.out.size t4.size))
      clear ho5 hb5 t4 I4
      refine hK.out _ _ (fun _ => t5) (fun _ => ?_)
      clear hK K
      have hHeld := t5
      try simp only [Act.put, zA, zB, zC]
      refine takeA (i := 6) (v := .tuple #[v5, .bool true]) 15 rfl rfl (by kernel_rfl) (by kernel_rfl) (by kernel_rfl) (by kernel_rfl) (fun _ _ _ h => h) (Or.inl ⟨by rfl, by intro W hSw; go_simp⟩) hHeld ?_
      simp only [Act.put, zA, zB, zC]
      refine takeA (i := 7) (v := v5) 22 rfl rfl (by kernel_rfl) (by kernel_rfl) (by kernel_rfl) (by kernel_rfl) (fun _ _ _ h => h) (Or.inl ⟨by rfl, by intro W hSw; go_simp⟩) hHeld ?_
      simp only [Act.put, zA, zB, zC]
      refine takeA (i := 8) (v := .bool true) 23 rfl rfl (by kernel_rfl) (by kernel_rfl) (by kernel_rfl) (by kernel_rfl) (fun _ _ _ h => h) (Or.inl ⟨by rfl, by intro W hSw; go_simp⟩) hHeld ?_
      simp only [Act.put, zA, zB, zC]
      refine takeA (i := 9) (v := v5) 12 rfl rfl (by kernel_rfl) (by kernel_rfl) (by kernel_rfl) (by kernel_rfl) (fun _ _ _ h => h) (Or.inl ⟨by rfl, by intro W hSw; go_simp⟩) hHeld ?_
      simp only [Act.put, zA, zB, zC]
      refine takeA (i := 10) (v := .bool true) 13 rfl rfl (by kernel_rfl) (by kernel_rfl) (by kernel_rfl) (by kernel_rfl) (fun _ _ _ h => h) (Or.inl ⟨by rfl, by intro W hSw; go_simp⟩) hHeld ?_
      simp only [Act.put, zA, zB, zC]
      clear hHeld
      refine doneL (by kernel_rfl) ?_ _
      try simp only [Act.put, zA, zB, zC]
      have B5 : Hid (Below w.heap.size w w5) := hid (B1.out.trans (t5.mono B1.out.size))
      have tk1 : True := trivial
      have tk2 : True := trivial
      go_wp2_with
        (first
          | (have _t := tk1; clear _t tk1; go_at_call 71; refine (KN.out _ _ (Ns.of_own O5.out)).mono ?_; rintro e w7 ⟨v7, rfl, ho7, hb7⟩; have O7 := hid ho7; have B7 := hid (B5.out.trans (hb7.mono B5.out.size)); clear ho7 hb7)
          | (have _t := tk2; clear _t tk2; go_at_call 100; refine (KK.out _ _ (Ns.of_own O7.out)).mono ?_; rintro e w9 ⟨v9, rfl, ho9, hb9⟩; have O9 := hid (own_mono ho9 B7.out.size); have B9 := hid (B7.out.trans (hb9.mono B7.out.size)); clear ho9 hb9))
      go_returns
      exact ⟨_, rfl, O9.out, B9.out⟩
    · rw [j1] at KN
      have HR : Hid (combL (.know 5 (k : Int) (.deny C)) = none) := hid (comb_long (by simp only [Tm.size] at j2 ⊢; omega))
      rw [HR.out]
      unfold Ans at KA KN ⊢
      simp only [Option.isSome_some, Option.getD_some, Option.isSome_none, Option.getD_none] at KA KN ⊢
      generalize lay 0 C = xs at *
      clear HR k1 k2 k3 k4 j1 j2 hC hDC
      go_enter Tryz.func70, Tryz.ntmps70
      go_wp2
      have b0 : Below w.heap.size w ((w.alloc (.cells (ints G).toArray 59)).alloc (.cells (bL q).toArray 79)) := by go_grown
      generalize (w.alloc (.cells (ints G).toArray 59)).alloc (.cells (bL q).toArray 79) = w1 at *
      have B1 := hid b0
      clear b0
      have HGW : Hid (∀ W, Below w1.heap.size w1 W → W.rangeAt w.heap.size 0 (ints G)) := hid (fun W hW => (c0.out.all hW).whole)
      have HSW : Hid (∀ W, Below w1.heap.size w1 W → W.rangeAt (w.heap.size + 1) 0 (bL q)) := hid (fun W hW => (s0.out.all hW).whole)
      refine regionL (fun W => Below w1.heap.size w1 W) [] (by kernel_rfl) (Below.refl _ _).drew (fun hHeld => ?_)
      refine takeA (i := 0) (v := .agg (ints G).toArray) 16 rfl rfl (by kernel_rfl) (by kernel_rfl) (by kernel_rfl) (by kernel_rfl) (fun _ _ _ h => h) (yieldsIf_load_mid (by rfl) 59 _ rfl w.heap.size 0 rfl (ints G) _ HGW.out hUg rfl (by rw [HL.out]; exact Tryz.sizeGrid)) hHeld ?_
      simp only [Act.put, zA, zB, zC]
      refine takeA (i := 1) (v := sv) 17 rfl rfl (by kernel_rfl) (by kernel_rfl) (by kernel_rfl) (by kernel_rfl) (fun _ _ _ h => h) (Or.inl ⟨by rfl, by intro W hSw; go_simp⟩) hHeld ?_
      simp only [Act.put, zA, zB, zC]
      refine takeA (i := 2) (v := .int .i64 x) 18 rfl rfl (by kernel_rfl) (by kernel_rfl) (by kernel_rfl) (by kernel_rfl) (fun _ _ _ h => h) (Or.inl ⟨by rfl, by intro W hSw; go_simp⟩) hHeld ?_
      simp only [Act.put, zA, zB, zC]
      refine takeA (i := 3) (v := .agg (bL q).toArray) 19 rfl rfl (by kernel_rfl) (by kernel_rfl) (by kernel_rfl) (by kernel_rfl) (fun _ _ _ h => h) (yieldsIf_load_mid (by rfl) 79 _ rfl (w.heap.size + 1) 0 rfl (bL q) _ HSW.out hUs rfl (by rw [bL_len]; exact Tryz.sizeSet)) hHeld ?_
      simp only [Act.put, zA, zB, zC]
      generalize w1.drew = wd at hHeld ⊢
      refine onlyL (i := 4) (by kernel_rfl) rfl (by rfl) (fun K hK => ?_)
      go_simp
      refine (KL.out _).mono ?_
      rintro e w4 ⟨v4, rfl, ho4, hb4⟩
      have t4 : Below w1.heap.size w1 w4 := hHeld.trans (hb4.mono hHeld.size)
      have I4 := hid ho4.read
      clear ho4 hb4 hHeld
      refine hK.out _ _ (fun _ => t4) (fun _ => ?_)
      clear hK K
      try simp only [Act.put, zA, zB, zC]
      refine onlyL (i := 5) (by kernel_rfl) rfl (by rfl) (fun K hK => ?_)
      go_simp
      refine (KA.out _ _ _ _ (B1.out.trans (t4.mono B1.out.size)) I4.out).mono ?_
      rintro e w5 ⟨v5, rfl, ho5, hb5⟩
      have t5 : Below w1.heap.size w1 w5 := t4.trans (hb5.mono t4.size)
      have O5 := hid (own_mono ho5 (Nat.le_trans B1.out.size t4.size))
      clear ho5 hb5 t4 I4
      refine hK.out _ _ (fun _ => t5) (fun _ => ?_)
      clear hK K
      have hHeld := t5
      try simp only [Act.put, zA, zB, zC]
      refine takeA (i := 6) (v := .tuple #[v5, .bool true]) 15 rfl rfl (by kernel_rfl) (by kernel_rfl) (by kernel_rfl) (by kernel_rfl) (fun _ _ _ h => h) (Or.inl ⟨by rfl, by intro W hSw; go_simp⟩) hHeld ?_
      simp only [Act.put, zA, zB, zC]
      refine takeA (i := 7) (v := v5) 22 rfl rfl (by kernel_rfl) (by kernel_rfl) (by kernel_rfl) (by kernel_rfl) (fun _ _ _ h => h) (Or.inl ⟨by rfl, by intro W hSw; go_simp⟩) hHeld ?_
      simp only [Act.put, zA, zB, zC]
      refine takeA (i := 8) (v := .bool true) 23 rfl rfl (by kernel_rfl) (by kernel_rfl) (by kernel_rfl) (by kernel_rfl) (fun _ _ _ h => h) (Or.inl ⟨by rfl, by intro W hSw; go_simp⟩) hHeld ?_
      simp only [Act.put, zA, zB, zC]
      refine takeA (i := 9) (v := v5) 12 rfl rfl (by kernel_rfl) (by kernel_rfl) (by kernel_rfl) (by kernel_rfl) (fun _ _ _ h => h) (Or.inl ⟨by rfl, by intro W hSw; go_simp⟩) hHeld ?_
      simp only [Act.put, zA, zB, zC]
      refine takeA (i := 10) (v := .bool true) 13 rfl rfl (by kernel_rfl) (by kernel_rfl) (by kernel_rfl) (by kernel_rfl) (fun _ _ _ h => h) (Or.inl ⟨by rfl, by intro W hSw; go_simp⟩) hHeld ?_
      simp only [Act.put, zA, zB, zC]
      clear hHeld
      refine doneL (by kernel_rfl) ?_ _
      try simp only [Act.put, zA, zB, zC]
      have B5 : Hid (Below w.heap.size w w5) := hid (B1.out.trans (t5.mono B1.out.size))
      have tk3 : True := trivial
      go_wp2_with
        (first
          | (have _t := tk3; clear _t tk3; go_at_call 71; refine (KN.out _ _ (Ns.of_own O5.out)).mono ?_; rintro e w7 ⟨v7, rfl, ho7, hb7⟩; have O7 := hid ho7; have B7 := hid (B5.out.trans (hb7.mono B5.out.size)); clear ho7 hb7))
      go_returns
      exact ⟨_, rfl, World.ownsRow_nil _ _ _ _, B7.out⟩
  · rw [k1] at KA
    have HR : Hid (combL (.know 5 (k : Int) (.deny C)) = none) := hid (comb_long (by simp only [Tm.size]; omega))
    rw [HR.out]
    unfold Ans at KA ⊢
    simp only [Option.isSome_none, Option.getD_none] at KA ⊢
    clear HR k1 k2 hC hDC
    go_enter Tryz.func70, Tryz.ntmps70
    go_wp2
    have b0 : Below w.heap.size w ((w.alloc (.cells (ints G).toArray 59)).alloc (.cells (bL q).toArray 79)) := by go_grown
    generalize (w.alloc (.cells (ints G).toArray 59)).alloc (.cells (bL q).toArray 79) = w1 at *
    have B1 := hid b0
    clear b0
    have HGW : Hid (∀ W, Below w1.heap.size w1 W → W.rangeAt w.heap.size 0 (ints G)) := hid (fun W hW => (c0.out.all hW).whole)
    have HSW : Hid (∀ W, Below w1.heap.size w1 W → W.rangeAt (w.heap.size + 1) 0 (bL q)) := hid (fun W hW => (s0.out.all hW).whole)
    refine regionL (fun W => Below w1.heap.size w1 W) [] (by kernel_rfl) (Below.refl _ _).drew (fun hHeld => ?_)
    refine takeA (i := 0) (v := .agg (ints G).toArray) 16 rfl rfl (by kernel_rfl) (by kernel_rfl) (by kernel_rfl) (by kernel_rfl) (fun _ _ _ h => h) (yieldsIf_load_mid (by rfl) 59 _ rfl w.heap.size 0 rfl (ints G) _ HGW.out hUg rfl (by rw [HL.out]; exact Tryz.sizeGrid)) hHeld ?_
    simp only [Act.put, zA, zB, zC]
    refine takeA (i := 1) (v := sv) 17 rfl rfl (by kernel_rfl) (by kernel_rfl) (by kernel_rfl) (by kernel_rfl) (fun _ _ _ h => h) (Or.inl ⟨by rfl, by intro W hSw; go_simp⟩) hHeld ?_
    simp only [Act.put, zA, zB, zC]
    refine takeA (i := 2) (v := .int .i64 x) 18 rfl rfl (by kernel_rfl) (by kernel_rfl) (by kernel_rfl) (by kernel_rfl) (fun _ _ _ h => h) (Or.inl ⟨by rfl, by intro W hSw; go_simp⟩) hHeld ?_
    simp only [Act.put, zA, zB, zC]
    refine takeA (i := 3) (v := .agg (bL q).toArray) 19 rfl rfl (by kernel_rfl) (by kernel_rfl) (by kernel_rfl) (by kernel_rfl) (fun _ _ _ h => h) (yieldsIf_load_mid (by rfl) 79 _ rfl (w.heap.size + 1) 0 rfl (bL q) _ HSW.out hUs rfl (by rw [bL_len]; exact Tryz.sizeSet)) hHeld ?_
    simp only [Act.put, zA, zB, zC]
    generalize w1.drew = wd at hHeld ⊢
    refine onlyL (i := 4) (by kernel_rfl) rfl (by rfl) (fun K hK => ?_)
    go_simp
    refine (KL.out _).mono ?_
    rintro e w4 ⟨v4, rfl, ho4, hb4⟩
    have t4 : Below w1.heap.size w1 w4 := hHeld.trans (hb4.mono hHeld.size)
    have I4 := hid ho4.read
    clear ho4 hb4 hHeld
    refine hK.out _ _ (fun _ => t4) (fun _ => ?_)
    clear hK K
    try simp only [Act.put, zA, zB, zC]
    refine onlyL (i := 5) (by kernel_rfl) rfl (by rfl) (fun K hK => ?_)
    go_simp
    refine (KA.out _ _ _ _ (B1.out.trans (t4.mono B1.out.size)) I4.out).mono ?_
    rintro e w5 ⟨v5, rfl, ho5, hb5⟩
    have t5 : Below w1.heap.size w1 w5 := t4.trans (hb5.mono t4.size)
    have O5 := hid (own_mono ho5 (Nat.le_trans B1.out.size t4.size))
    clear ho5 hb5 t4 I4
    refine hK.out _ _ (fun _ => t5) (fun _ => ?_)
    clear hK K
    have hHeld := t5
    try simp only [Act.put, zA, zB, zC]
    refine takeA (i := 6) (v := .tuple #[v5, .bool false]) 15 rfl rfl (by kernel_rfl) (by kernel_rfl) (by kernel_rfl) (by kernel_rfl) (fun _ _ _ h => h) (Or.inl ⟨by rfl, by intro W hSw; go_simp⟩) hHeld ?_
    simp only [Act.put, zA, zB, zC]
    refine takeA (i := 7) (v := v5) 22 rfl rfl (by kernel_rfl) (by kernel_rfl) (by kernel_rfl) (by kernel_rfl) (fun _ _ _ h => h) (Or.inl ⟨by rfl, by intro W hSw; go_simp⟩) hHeld ?_
    simp only [Act.put, zA, zB, zC]
    refine takeA (i := 8) (v := .bool false) 23 rfl rfl (by kernel_rfl) (by kernel_rfl) (by kernel_rfl) (by kernel_rfl) (fun _ _ _ h => h) (Or.inl ⟨by rfl, by intro W hSw; go_simp⟩) hHeld ?_
    simp only [Act.put, zA, zB, zC]
    refine takeA (i := 9) (v := v5) 12 rfl rfl (by kernel_rfl) (by kernel_rfl) (by kernel_rfl) (by kernel_rfl) (fun _ _ _ h => h) (Or.inl ⟨by rfl, by intro W hSw; go_simp⟩) hHeld ?_
    simp only [Act.put, zA, zB, zC]
    refine takeA (i := 10) (v := .bool false) 13 rfl rfl (by kernel_rfl) (by kernel_rfl) (by kernel_rfl) (by kernel_rfl) (fun _ _ _ h => h) (Or.inl ⟨by rfl, by intro W hSw; go_simp⟩) hHeld ?_
    simp only [Act.put, zA, zB, zC]
    clear hHeld
    refine doneL (by kernel_rfl) ?_ _
    try simp only [Act.put, zA, zB, zC]
    have B5 : Hid (Below w.heap.size w w5) := hid (B1.out.trans (t5.mono B1.out.size))
    go_wp2
    go_returns
    exact ⟨_, rfl, World.ownsRow_nil _ _ _ _, B5.out⟩
end Go.Proofs.YtnpfnfenkklocaaGreatDoor
