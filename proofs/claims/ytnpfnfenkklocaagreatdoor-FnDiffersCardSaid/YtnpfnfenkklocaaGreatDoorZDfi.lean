/- ZDfi -/
import Derived.Test.YtnpfnfenkklocaaGreatDoorTzb
import Derived.Test.YtnpfnfenkklocaaGreatDoorKnn
import Derived.Test.YtnpfnfenkklocaaGreatDoorZFsp
import Derived.Deep.DeepCutAuto
set_option maxRecDepth 100000
set_option maxHeartbeats 64000000
namespace Go.Proofs.YtnpfnfenkklocaaGreatDoor
open Go.RowKit Go.WideShapes
open Go Go.Deep
set_option linter.unusedSimpArgs false
section
variable {P : Program}
theorem wpList_binR {ops : Array Oper} {rest : List Oper} {o : Oper} {a : Act} {w : World} {Q : Exit → Act → World → Prop} (hgd : o.guard = none) (bop : BinOp) (T R : TypeId) (x y : Operand) (u v r : Value) (ho : o.op = .binOp bop T x y R) (hx : a.eval x = u) (hy : a.eval y = v)
    (hr : (do eqGuard bop T x y u v; binOp bop T u v : Sem Value).run P w = .ok r w) (h : wpList P ops Q rest (a.put o.dst r) w) : wpList P ops Q (o :: rest) a w :=
  wpList_op hgd r (by unfold execOp; simp only [ho, hx, hy]; rw [Sem.run_bind, hr]; rfl) h
end
theorem xor_nib : ∀ a : Fin 16, ∀ b : Fin 16, bits .xor .i64 ((a.val : Nat) : Int) ((b.val : Nat) : Int) = (((a.val ^^^ b.val : Nat)) : Int) := by decide +kernel
theorem ctz_nib : ∀ a : Fin 16, ∀ b : Fin 16, a ≠ b → (a.val ^^^ b.val ≠ 0 ∧ a.val ^^^ b.val < 16 ∧ Lib.ctz 64 (a.val ^^^ b.val) < 4 ∧ firstBit ((a.val : Nat) : Int) ((b.val : Nat) : Int) = some (Lib.ctz 64 (a.val ^^^ b.val))) := by decide +kernel
theorem leaf_lay {k : Nat} : lay 0 (.leaf 1 (k : Int)) = [⟨1, k, 0, 0⟩] := rfl
theorem leaf_ok {k : Nat} (hk : k < 4) : formOk [⟨1, (k : Int), 0, 0⟩] = true ∧ termOfL [⟨1, (k : Int), 0, 0⟩] = .leaf 1 (k : Int) := by
  rcases (show k = 0 ∨ k = 1 ∨ k = 2 ∨ k = 3 by omega) with rfl | rfl | rfl | rfl <;> exact ⟨by decide +kernel, by rfl⟩
theorem factDiff_any (a b k : Nat) (ha : a < 16) (hb : b < 16) (hab : a ≠ b) (hk : firstBit (a : Int) (b : Int) = some k) (w : World) (hT : BTab w) :
    Calls Tryz.prog 65 #[.int .i64 a, .int .i64 b] w (Ans w (combL (if bitI (a : Int) k == 1 then .leaf 1 (k : Int) else .deny (.leaf 1 (k : Int))))) := by
  have hx := xor_nib ⟨a, ha⟩ ⟨b, hb⟩
  obtain ⟨x0, x16, k4, hf⟩ := ctz_nib ⟨a, ha⟩ ⟨b, hb⟩ (by intro e; exact hab (Fin.mk.inj e))
  simp only at hx x0 x16 k4 hf
  rw [hk] at hf
  have hk2 := Option.some.inj hf
  rw [← hk2] at k4
  have KT := hid (fun W (h : Below w.heap.size w W) => tz_full (a ^^^ b) (by omega) x0 W ((hT.below h (Nat.le_refl _)).at))
  rw [← hk2] at KT
  have HXR := hid hx
  have HW : Hid (IntKind.u64.wrap ((a ^^^ b : Nat) : Int) = ((a ^^^ b : Nat) : Int)) := hid (by rw [IntKind.wrap_u64]; omega)
  have h0 : (0 : Int) ≤ (a : Int) := Int.natCast_nonneg _
  have h1 : (a : Int) < 16 := by omega
  have HSH := hid (fun p q => Tryz.shrInt p q (a : Int) k h0 h1 k4)
  have hz0 : 0 ≤ (a : Int) / 2 ^ k := Int.ediv_nonneg h0 (Int.le_of_lt (Int.pow_pos (by decide)))
  have hz1 : (a : Int) / 2 ^ k < 16 := Int.lt_of_le_of_lt (Int.ediv_le_self _ h0) h1
  have HAN := hid (fun p q => Tryz.andInt p q ((a : Int) / 2 ^ k) hz0 hz1)
  have HBI : Hid (bitI (a : Int) k = (a : Int) / 2 ^ k % 2) := hid rfl
  have hk0 : (0 : Int) ≤ (k : Int) := Int.natCast_nonneg _
  have hk4 : (k : Int) < 4 := by omega
  obtain ⟨lo1, lo2⟩ := leaf_ok k4
  have KN := hid (fun u W (hu : Ns W u [⟨1, (k : Int), 0, 0⟩]) => implNegate_any u _ W hu)
  rw [lo1, lo2] at KN
  simp only [if_true] at KN
  have HC : Hid (combL (.leaf 1 (k : Int)) = some [⟨1, (k : Int), 0, 0⟩]) := hid (by unfold combL; rw [leaf_lay, lo1]; rfl)
  rw [HBI.out]
  generalize (a : Int) / 2 ^ k = z at *
  generalize hy : z % 2 = y at *
  clear hy hz0 hz1 hx x0 x16 hf hk hk2 lo1 lo2 hT hab HBI
  by_cases hy1 : y = 1
  · subst hy1
    simp only [beq_self_eq_true, if_true]
    rw [HC.out]
    go_enter Tryz.func65, Tryz.ntmps65
    go_wp2_with fail
    rw [HXR.out, HW.out]
    refine (KT.out _ (Below.refl _ _)).mono ?_
    rintro e w1 ⟨rfl, rfl⟩
    have tk1 : True := trivial
    have tk2 : True := trivial
    go_wp2_with
      (first
        | (have _t := tk1; clear _t tk1; refine wpList_binR rfl .shr 3 3 (.tmp 16) (.tmp 17) (.int .i64 a) (.int .i64 k) _ rfl rfl rfl (HSH.out _ _ _) ?_)
        | (have _t := tk2; clear _t tk2; refine wpList_binR rfl .and 3 3 (.tmp 18) (.const (.int .i64 1)) (.int .i64 z) (.int .i64 1) _ rfl rfl rfl (HAN.out _ _ _) ?_))
    go_returns
    exact ⟨_, rfl, World.ownsRow_lit w1 #[.int .i64 1, .int .i64 k, .int .i64 0, .int .i64 0] 1 (Nat.le_refl _) (by decide) rfl, by go_grown⟩
  · have e1 : (y == 1) = false := by simpa using hy1
    rw [e1]
    simp only [Bool.false_eq_true, if_false]
    generalize combL (Tm.deny (.leaf 1 (k : Int))) = R at *
    unfold Ans at KN ⊢
    generalize hR1 : R.isSome = r1 at *
    generalize hR2 : R.getD [] = r2 at *
    clear hR1 hR2 HC
    go_enter Tryz.func65, Tryz.ntmps65
    go_wp2_with fail
    rw [HXR.out, HW.out]
    refine (KT.out _ (Below.refl _ _)).mono ?_
    rintro e w1 ⟨rfl, rfl⟩
    have tk3 : True := trivial
    have tk4 : True := trivial
    have tk5 : True := trivial
    go_wp2_with
      (first
        | (have _t := tk3; clear _t tk3; refine wpList_binR rfl .shr 3 3 (.tmp 16) (.tmp 17) (.int .i64 a) (.int .i64 k) _ rfl rfl rfl (HSH.out _ _ _) ?_)
        | (have _t := tk4; clear _t tk4; refine wpList_binR rfl .and 3 3 (.tmp 18) (.const (.int .i64 1)) (.int .i64 z) (.int .i64 1) _ rfl rfl rfl (HAN.out _ _ _) ?_)
        | (have _t := tk5; clear _t tk5; go_at_call 71; refine (KN.out _ _ (Ns.of_own (n := 1) (World.ownsRow_lit w1 #[.int .i64 1, .int .i64 k, .int .i64 0, .int .i64 0] 1 (Nat.zero_le _) (by decide) rfl))).mono ?_; rintro e w2 ⟨v2, rfl, ho2, hb2⟩))
    go_returns
    exact ⟨_, rfl, own_mono ho2 (by simp), Below.trans (by go_grown) (hb2.mono (by simp))⟩
section
variable {P : Program} {ops : Array Oper} {Q : Exit → Act → World → Prop} {md : Region.Mode} {S : World → Prop} {L : List Nat}
theorem threeL {i j k : Nat} {oi oj ok : Oper} {fuel : Nat} {listed : Array Bool} {a : Act} {w : World} (hr : Region.ready md ops listed = [i, j, k]) (hi : ops[i]? = some oi) (hj : ops[j]? = some oj) (hk : ops[k]? = some ok)
    (hwi : Region.wanted oi (yielded ops a.tmps) = true) (hwj : Region.wanted oj (yielded ops a.tmps) = true) (hwk : Region.wanted ok (yielded ops a.tmps) = true)
    (h1 : ∀ K : Act → World → Prop, Shut (∀ a w, (i ∉ L → S w) → ((i ∉ L → S w) → wpAnyL P md ops Q S L fuel (listed.setIfInBounds i true) a w) → K a w) → Oper.wp P oi a w K Q)
    (h2 : ∀ K : Act → World → Prop, Shut (∀ a w, (j ∉ L → S w) → ((j ∉ L → S w) → wpAnyL P md ops Q S L fuel (listed.setIfInBounds j true) a w) → K a w) → Oper.wp P oj a w K Q)
    (h3 : ∀ K : Act → World → Prop, Shut (∀ a w, (k ∉ L → S w) → ((k ∉ L → S w) → wpAnyL P md ops Q S L fuel (listed.setIfInBounds k true) a w) → K a w) → Oper.wp P ok a w K Q) : wpAnyL P md ops Q S L (fuel + 1) listed a w := by
  refine ⟨fun h0 => (by rw [hr] at h0; cases h0), fun n hn => ?_⟩
  rw [hr] at hn
  simp only [List.mem_cons, List.not_mem_nil, or_false] at hn
  rcases hn with rfl | rfl | rfl
  · exact wpOp_step hi (fun K hK => by rw [if_pos hwi]; exact h1 K (fun a w hS hW => hK a w ⟨hS, hW hS⟩))
  · exact wpOp_step hj (fun K hK => by rw [if_pos hwj]; exact h2 K (fun a w hS hW => hK a w ⟨hS, hW hS⟩))
  · exact wpOp_step hk (fun K hK => by rw [if_pos hwk]; exact h3 K (fun a w hS hW => hK a w ⟨hS, hW hS⟩))
end
theorem diffFact_any (m : Md) (hm : mdOk m = true) (sv : Value) (x y k : Nat) (w : World) (hx : x < m.facts.length) (hy : y < m.facts.length) (hb : firstBit (m.facts.getD x 0) (m.facts.getD y 0) = some k) (hT : BTab w) :
    Calls Tryz.prog 33 #[.agg (ints (gL m.facts.length m.blocks.length m.facts m.blocks m.actual)).toArray, sv, .int .i64 x, .int .i64 y] w (Ans w (combL (if bitI (m.facts.getD x 0) k == 1 then .leaf 1 (k : Int) else .deny (.leaf 1 (k : Int))))) := by
  obtain ⟨p1, p2, p3, p4, p5, p6, -⟩ := mdOk_parts hm
  have hs := md_small hm
  obtain ⟨a, ha⟩ := Int.eq_ofNat_of_zero_le (p6 x hx).1
  obtain ⟨b, hbb⟩ := Int.eq_ofNat_of_zero_le (p6 y hy).1
  have ha16 := (p6 x hx).2
  have hb16 := (p6 y hy).2
  have HF : Hid (∀ W b T, Cm W b T (ints (gL m.facts.length m.blocks.length m.facts m.blocks m.actual)) → W.cell? ⟨b, 2 + x, none⟩ = some (.int .i64 (m.facts.getD x 0)) ∧ W.cell? ⟨b, 2 + y, none⟩ = some (.int .i64 (m.facts.getD y 0))) := hid (fun W b T h => ⟨h.gf hs (by omega), h.gf hs (by omega)⟩)
  rw [ha] at hb ha16 HF ⊢
  rw [hbb] at hb hb16 HF
  have hab : a ≠ b := fun h => by rw [h, firstBit_same] at hb; cases hb
  have KF := hid (fun W (h : Below w.heap.size w W) => factDiff_any a b k (by omega) (by omega) hab hb W (hT.below h (Nat.le_refl _)))
  generalize combL (if bitI (a : Int) k == 1 then .leaf 1 (k : Int) else .deny (.leaf 1 (k : Int))) = R at *
  unfold Ans at KF ⊢
  generalize hR1 : R.isSome = ok at *
  generalize hR2 : R.getD [] = zs at *
  have hx0 : (0 : Int) ≤ (x : Int) := Int.natCast_nonneg _
  have hy0 : (0 : Int) ≤ (y : Int) := Int.natCast_nonneg _
  have hx16 : (x : Int) < 16 := by omega
  have hy16 : (y : Int) < 16 := by omega
  have eab : ((a : Int) == (b : Int)) = false := by rw [beq_eq_false_iff_ne]; omega
  clear hR1 hR2 hb ha hbb hab hT p5 p6 hs hm
  generalize (gL m.facts.length m.blocks.length m.facts m.blocks m.actual) = G at *
  go_enter Tryz.func33, Tryz.ntmps33
  go_wp2
  have c0 : Cm (w.alloc (.cells (ints G).toArray 59)) w.heap.size 59 (ints G) := Cm.new rfl
  have b0 : Below w.heap.size w (w.alloc (.cells (ints G).toArray 59)) := by go_grown
  generalize w.alloc (.cells (ints G).toArray 59) = w1 at *
  have C1 := hid c0
  have B1 := hid b0
  clear c0 b0
  have HC : Hid (∀ W, Below w1.heap.size w1 W → W.cell? ⟨w.heap.size, 2 + x, none⟩ = some (.int .i64 a) ∧ W.cell? ⟨w.heap.size, 2 + y, none⟩ = some (.int .i64 b)) := hid (fun W h => HF.out _ _ _ (C1.out.all h))
  obtain ⟨d1, d2⟩ := HC.out w1 (Below.refl _ _)
  go_quiet (fail)
  clear d1 d2
  go_wp2
  refine regionL (fun W => Below w1.heap.size w1 W) [] (by kernel_rfl) (below_drewN' (Below.refl _ _) _).drew (fun hHeld => ?_)
  refine takeA (i := 0) (v := .int .i64 x) 29 rfl rfl (by kernel_rfl) (by kernel_rfl) (by kernel_rfl) (by kernel_rfl) (fun _ _ _ h => h) (Or.inl ⟨by rfl, by intro W hSw; go_simp⟩) hHeld ?_
  simp only [Act.put, zA, zB, zC]
  refine takeA (i := 1) (v := .pointer (some ⟨w.heap.size, 2, none⟩)) 30 rfl rfl (by kernel_rfl) (by kernel_rfl) (by kernel_rfl) (by kernel_rfl) (fun _ _ _ h => h) (Or.inl ⟨by rfl, by intro W hSw; go_simp⟩) hHeld ?_
  simp only [Act.put, zA, zB, zC]
  refine takeA (i := 2) (v := .pointer (some ⟨w.heap.size, 2 + x, none⟩)) 31 rfl rfl (by kernel_rfl) (by kernel_rfl) (by kernel_rfl) (by kernel_rfl) (fun _ _ _ h => h) (Or.inl ⟨by rfl, by intro W hSw; go_simp⟩) hHeld ?_
  simp only [Act.put, zA, zB, zC]
  refine takeA (i := 3) (v := .int .i64 a) 32 rfl rfl (by kernel_rfl) (by kernel_rfl) (by kernel_rfl) (by kernel_rfl) (fun _ _ _ h => h) (Or.inl ⟨by rfl, by intro W hSw; have c1 := (HC.out _ hSw).1; go_simp⟩) hHeld ?_
  simp only [Act.put, zA, zB, zC]
  refine takeA (i := 4) (v := .int .i64 y) 33 rfl rfl (by kernel_rfl) (by kernel_rfl) (by kernel_rfl) (by kernel_rfl) (fun _ _ _ h => h) (Or.inl ⟨by rfl, by intro W hSw; go_simp⟩) hHeld ?_
  simp only [Act.put, zA, zB, zC]
  refine takeA (i := 5) (v := .pointer (some ⟨w.heap.size, 2, none⟩)) 34 rfl rfl (by kernel_rfl) (by kernel_rfl) (by kernel_rfl) (by kernel_rfl) (fun _ _ _ h => h) (Or.inl ⟨by rfl, by intro W hSw; go_simp⟩) hHeld ?_
  simp only [Act.put, zA, zB, zC]
  refine takeA (i := 6) (v := .pointer (some ⟨w.heap.size, 2 + y, none⟩)) 35 rfl rfl (by kernel_rfl) (by kernel_rfl) (by kernel_rfl) (by kernel_rfl) (fun _ _ _ h => h) (Or.inl ⟨by rfl, by intro W hSw; go_simp⟩) hHeld ?_
  simp only [Act.put, zA, zB, zC]
  refine takeA (i := 7) (v := .int .i64 b) 36 rfl rfl (by kernel_rfl) (by kernel_rfl) (by kernel_rfl) (by kernel_rfl) (fun _ _ _ h => h) (Or.inl ⟨by rfl, by intro W hSw; have c1 := (HC.out _ hSw).2; go_simp⟩) hHeld ?_
  simp only [Act.put, zA, zB, zC]
  generalize (World.drew _) = wd at hHeld ⊢
  refine onlyL (i := 8) (by kernel_rfl) rfl (by rfl) (fun K hK => ?_)
  go_simp
  refine (KF.out _ (B1.out.trans (hHeld.mono B1.out.size))).mono ?_
  rintro e w5 ⟨v5, rfl, ho5, hb5⟩
  have t5 : Below w1.heap.size w1 w5 := hHeld.trans (hb5.mono hHeld.size)
  have O5 := hid (own_mono ho5 (Nat.le_trans B1.out.size hHeld.size))
  clear ho5 hb5 hHeld
  refine hK.out _ _ (fun _ => t5) (fun _ => ?_)
  clear hK K
  have hHeld := t5
  try simp only [Act.put, zA, zB, zC]
  refine takeA (i := 9) (v := v5) 38 rfl rfl (by kernel_rfl) (by kernel_rfl) (by kernel_rfl) (by kernel_rfl) (fun _ _ _ h => h) (Or.inl ⟨by rfl, by intro W hSw; go_simp⟩) hHeld ?_
  simp only [Act.put, zA, zB, zC]
  refine takeA (i := 10) (v := .bool ok) 39 rfl rfl (by kernel_rfl) (by kernel_rfl) (by kernel_rfl) (by kernel_rfl) (fun _ _ _ h => h) (Or.inl ⟨by rfl, by intro W hSw; go_simp⟩) hHeld ?_
  simp only [Act.put, zA, zB, zC]
  refine takeA (i := 11) (v := v5) 8 rfl rfl (by kernel_rfl) (by kernel_rfl) (by kernel_rfl) (by kernel_rfl) (fun _ _ _ h => h) (Or.inl ⟨by rfl, by intro W hSw; go_simp⟩) hHeld ?_
  simp only [Act.put, zA, zB, zC]
  refine takeA (i := 12) (v := .bool ok) 9 rfl rfl (by kernel_rfl) (by kernel_rfl) (by kernel_rfl) (by kernel_rfl) (fun _ _ _ h => h) (Or.inl ⟨by rfl, by intro W hSw; go_simp⟩) hHeld ?_
  simp only [Act.put, zA, zB, zC]
  clear hHeld
  refine doneL (by kernel_rfl) ?_ _
  try simp only [Act.put, zA, zB, zC]
  go_wp2
  go_returns
  exact ⟨_, rfl, O5.out, B1.out.trans (t5.mono B1.out.size)⟩
theorem diffStep_any (m : Md) (hm : mdOk m = true) (sv : Value) (x y k s z : Nat) (b : Bool) (C : Tm) (w : World) (hx : x < m.facts.length) (hy : y < m.facts.length) (hfe : m.facts.getD x 0 = m.facts.getD y 0) (hSt : StV w sv m)
    (hs : s ≤ stab m) (hst : stab m ≤ 16) (hsm : ∀ j, j ≤ stab m → (cF m j x = cF m j y ↔ j ≤ s)) (hk : k < m.blocks.length)
    (hd : eqB (metG m.blocks m.facts.length k x (cF m s)) (metG m.blocks m.facts.length k y (cF m s)) = false) (he : ∀ j, j < k → eqB (metG m.blocks m.facts.length j x (cF m s)) (metG m.blocks m.facts.length j y (cF m s)) = true)
    (hz : (b = true ∧ missing m (clsAt m s) k x y = some z) ∨ (b = false ∧ missing m (clsAt m s) k x y = none ∧ missing m (clsAt m s) k y x = some z)) (hC : (Tm.know 5 (k : Int) (.deny C)).wf)
    (hA : ∀ W, Below w.heap.size w W → Calls Tryz.prog 70 #[.agg (ints (gL m.facts.length m.blocks.length m.facts m.blocks m.actual)).toArray, sv, .int .i64 k, .int .i64 z, .agg (bL (blkB m.blocks m.facts.length k (if b then y else x))).toArray] W (Ans W (combL (.know 5 (k : Int) (.deny C))))) :
    Calls Tryz.prog 33 #[.agg (ints (gL m.facts.length m.blocks.length m.facts m.blocks m.actual)).toArray, sv, .int .i64 x, .int .i64 y] w (Ans w (combL (if b then .deny (.know 5 (k : Int) (.deny C)) else .know 5 (k : Int) (.deny C)))) := by
  obtain ⟨p1, p2, p3, p4, p5, p6, -⟩ := mdOk_parts hm
  have hsl := md_small hm
  have HL : Hid ((ints (gL m.facts.length m.blocks.length m.facts m.blocks m.actual)).length = 67) := hid (by rw [ints_len]; exact gL_len hsl)
  have HF : Hid (∀ W b T, Cm W b T (ints (gL m.facts.length m.blocks.length m.facts m.blocks m.actual)) → W.cell? ⟨b, 2 + x, none⟩ = some (.int .i64 (m.facts.getD y 0)) ∧ W.cell? ⟨b, 2 + y, none⟩ = some (.int .i64 (m.facts.getD y 0))) := hid (fun W b T h => ⟨hfe ▸ h.gf hsl (by omega), h.gf hsl (by omega)⟩)
  have KLs := hid (fun W (h : Below w.heap.size w W) => lastShared_any sv m x y s W (hSt.below h) (by omega) (by omega) hs hst hsm)
  have hcb : ∀ v, v < 16 → 0 ≤ cF m s v ∧ cF m s v < 16 := fun v _ => by
    unfold cF
    rcases Nat.lt_or_ge v m.facts.length with h | h
    · have := clsAt_bd (m := m) (j := s) h; omega
    · rw [List.getD_eq_getElem?_getD, List.getElem?_eq_none (by rw [clsAt_len]; exact h)]; decide
  have KFs := hid (fun W => splitter_any m.facts.length m.blocks.length m.actual m.facts m.blocks hsl p2 x y k (by omega) (by omega) (by omega) (cF m s) hcb hd he W)
  have KBx := hid (fun W => block_any m.facts.length m.blocks.length m.actual m.facts m.blocks hsl p2 k x (by omega) (by omega) W)
  have KBy := hid (fun W => block_any m.facts.length m.blocks.length m.actual m.facts m.blocks hsl p2 k y (by omega) (by omega) W)
  have hself : ∀ v, v < m.facts.length → ∃ i, i < 16 ∧ blkB m.blocks m.facts.length k v i = true := fun v hv => ⟨v, by omega, by unfold blkB cut; simp [hv]⟩
  have KM1 := hid (fun W => firstMissing_any (blkB m.blocks m.facts.length k x) (blkB m.blocks m.facts.length k y) (cF m s) (hself y hy) W)
  have KM2 := hid (fun W => firstMissing_any (blkB m.blocks m.facts.length k y) (blkB m.blocks m.facts.length k x) (cF m s) (hself x hx) W)
  rw [← miss_eq p2] at KM1 KM2
  have KA := hid hA
  have hHRL := rowF_ints_len (cF m s)
  have HRL := hid hHRL
  have HVO := hid (fun v (hv : v ∈ ints (rowF (cF m s))) => ints_one hv)
  have hx0 : (0 : Int) ≤ (x : Int) := Int.natCast_nonneg _
  have hy0 : (0 : Int) ≤ (y : Int) := Int.natCast_nonneg _
  have hx16 : (x : Int) < 16 := by omega
  have hy16 : (y : Int) < 16 := by omega
  have hUg : Tryz.prog.underlying 59 = some _ := Tryz.underlying59
  obtain ⟨R, hR⟩ : ∃ R, R = combL (if b then .deny (.know 5 (k : Int) (.deny C)) else .know 5 (k : Int) (.deny C)) := ⟨_, rfl⟩
  rw [← hR]
  have HRT := hid hR
  have HZ := hid hz
  have HCW := hid hC
  clear hR hz hC hA hcb hd he hself hSt hsm p5 p6 hsl hm hfe hHRL
  generalize ints (rowF (cF m s)) = V at *
  generalize (gL m.facts.length m.blocks.length m.facts m.blocks m.actual) = G at *
  generalize hP : blkB m.blocks m.facts.length k x = P at *
  generalize hQ : blkB m.blocks m.facts.length k y = Q at *
  generalize m.facts.getD y 0 = fy at *
  go_enter Tryz.func33, Tryz.ntmps33
  go_wp2
  have c0 : Cm (w.alloc (.cells (ints G).toArray 59)) w.heap.size 59 (ints G) := Cm.new rfl
  have b0 : Below w.heap.size w (w.alloc (.cells (ints G).toArray 59)) := by go_grown
  generalize w.alloc (.cells (ints G).toArray 59) = w1 at *
  have C1 := hid c0
  have B1 := hid b0
  clear c0 b0
  obtain ⟨d1, d2⟩ := HF.out _ _ _ C1.out
  go_quiet (fail)
  clear d1 d2
  have tk1 : True := trivial
  have tk2 : True := trivial
  have tk3 : True := trivial
  have tk4 : True := trivial
  have tk5 : True := trivial
  have tk6 : True := trivial
  go_wp2_with
    (first
      | (have _t := tk1; clear _t tk1; go_at_call 66; refine (KLs.out _ (below_drewN' B1.out _)).mono ?_; rintro e w2 ⟨rfl, hb2⟩; have C2 := hid ((C1.out.drewN _).all hb2); have B2 : Hid (Below w.heap.size w w2) := hid ((below_drewN' B1.out _).trans (hb2.mono B1.out.size)); clear hb2 C1 B1)
      | (have _t := tk2; clear _t tk2; refine wpList_allocM (o := ⟨some 10, _, _, _, _, _⟩) rfl 56 rfl (ints (rowF fun _ => 0)) Tryz.allocRowF ?_
         intro w3 hc3 hb3 hs3
         have R3 := hid hc3
         have C3 := hid (C2.out.all hb3)
         have B3 := hid (B2.out.trans (hb3.mono B2.out.size))
         have lt3 : w2.heap.size < w3.heap.size := R3.out.lt
         have ltw := C2.out.lt
         clear hc3 hb3 hs3 C2 B2)
      | (have _t := tk3; clear _t tk3; refine wpList_storeM rfl 56 (.tmp 10) (.tmp 43) rfl w2.heap.size 0 rfl V rfl 56 _ R3.out (by rw [rowF_ints_len, HRL.out]; exact Nat.le_refl _) (by rw [HRL.out]; exact Tryz.sizeRow) HVO.out ?_
         intro w4 hc4 ha4
         rw [lay'_all (by rw [rowF_ints_len, HRL.out])] at hc4
         have R4 := hid hc4
         have C4 := hid (ha4.cm C3.out (by omega))
         have B4 : Hid (Below w.heap.size w w4) := hid (B3.out.trans (ha4.below (by omega)))
         clear hc4 ha4 R3 C3 B3)
      | (have _t := tk4; clear _t tk4; refine wpList_loadM rfl 59 (.tmp 4) rfl w.heap.size 0 rfl 59 (ints G) (ints G) C4.out (fun j _ => by rw [Nat.zero_add]) _ Tryz.underlying59 rfl (by rw [HL.out]; exact Tryz.sizeGrid) ?_)
      | (have _t := tk5; clear _t tk5; refine wpList_loadM rfl 56 (.tmp 10) rfl w2.heap.size 0 rfl 56 V V R4.out (fun j _ => by rw [Nat.zero_add]) _ Tryz.underlying56 rfl (by rw [HRL.out]; exact Tryz.sizeRow) ?_)
      | (have _t := tk6; clear _t tk6; go_at_call 67; refine (KFs.out _).mono ?_; rintro e w5 ⟨rfl, hb5⟩; have R5 := hid (R4.out.all hb5); have C5 := hid (C4.out.all hb5); have B5 := hid (B4.out.trans (hb5.mono B4.out.size)); clear hb5 R4 C4 B4))
  have HGW : Hid (∀ W, Below w5.heap.size w5 W → W.rangeAt w.heap.size 0 (ints G)) := hid (fun W hW => (C5.out.all hW).whole)
  try simp only [Act.put, zA, zB, zC]
  go_cut [12, 13] (fun p12 p13 w' => ∃ b12 b13, p12 = .pointer (some ⟨b12, 0, none⟩) ∧ p13 = .pointer (some ⟨b13, 0, none⟩) ∧ Hid (Cm w' b12 79 (bL P)) ∧ Hid (Cm w' b13 79 (bL Q)) ∧ Below w5.heap.size w5 w')
  case first =>
    refine regionL (fun W => Below w5.heap.size w5 W) [10, 11] (by kernel_rfl) (Below.refl _ _).drew (fun hHeld => ?_)
    refine takeA (i := 0) (v := .agg (ints G).toArray) 49 rfl rfl (by kernel_rfl) (by kernel_rfl) (by kernel_rfl) (by kernel_rfl) (fun _ _ _ h => h) (yieldsIf_load_mid (by rfl) 59 _ rfl w.heap.size 0 rfl (ints G) _ HGW.out hUg rfl (by rw [HL.out]; exact Tryz.sizeGrid)) hHeld ?_
    simp only [Act.put, zA, zB, zC]
    refine takeA (i := 1) (v := .int .i64 k) 50 rfl rfl (by kernel_rfl) (by kernel_rfl) (by kernel_rfl) (by kernel_rfl) (fun _ _ _ h => h) (Or.inl ⟨by rfl, by intro W hSw; go_simp⟩) hHeld ?_
    simp only [Act.put, zA, zB, zC]
    refine takeA (i := 2) (v := .int .i64 x) 51 rfl rfl (by kernel_rfl) (by kernel_rfl) (by kernel_rfl) (by kernel_rfl) (fun _ _ _ h => h) (Or.inl ⟨by rfl, by intro W hSw; go_simp⟩) hHeld ?_
    simp only [Act.put, zA, zB, zC]
    refine takeA (i := 4) (v := .agg (ints G).toArray) 53 rfl rfl (by kernel_rfl) (by kernel_rfl) (by kernel_rfl) (by kernel_rfl) (fun _ _ _ h => h) (yieldsIf_load_mid (by rfl) 59 _ rfl w.heap.size 0 rfl (ints G) _ HGW.out hUg rfl (by rw [HL.out]; exact Tryz.sizeGrid)) hHeld ?_
    simp only [Act.put, zA, zB, zC]
    refine takeA (i := 5) (v := .int .i64 k) 54 rfl rfl (by kernel_rfl) (by kernel_rfl) (by kernel_rfl) (by kernel_rfl) (fun _ _ _ h => h) (Or.inl ⟨by rfl, by intro W hSw; go_simp⟩) hHeld ?_
    simp only [Act.put, zA, zB, zC]
    refine takeA (i := 6) (v := .int .i64 y) 55 rfl rfl (by kernel_rfl) (by kernel_rfl) (by kernel_rfl) (by kernel_rfl) (fun _ _ _ h => h) (Or.inl ⟨by rfl, by intro W hSw; go_simp⟩) hHeld ?_
    simp only [Act.put, zA, zB, zC]
    generalize w5.drew = wd at hHeld ⊢
    refine threeL (i := 3) (j := 8) (k := 9) (by kernel_rfl) rfl rfl rfl (by rfl) (by rfl) (by rfl) (fun K hK => ?_) (fun K hK => ?_) (fun K hK => ?_) 
    · skip
      go_simp
      refine (KBx.out _).mono ?_
      rintro e w101 ⟨rfl, hb101⟩
      have t101 : Below w5.heap.size w5 w101 := hHeld.trans (hb101.mono hHeld.size)
      have lt101 := hb101.size
      clear hb101
      refine hK.out _ _ (fun _ => t101) (fun _ => ?_)
      clear hK K
      try simp only [Act.put, zA, zB, zC]
      refine threeL (i := 7) (j := 8) (k := 9) (by kernel_rfl) rfl rfl rfl (by rfl) (by rfl) (by rfl) (fun K hK => ?_) (fun K hK => ?_) (fun K hK => ?_) 
      · skip
        go_simp
        refine (KBy.out _).mono ?_
        rintro e w102 ⟨rfl, hb102⟩
        have t102 : Below w5.heap.size w5 w102 := t101.trans (hb102.mono t101.size)
        have lt102 := hb102.size
        clear hb102
        refine hK.out _ _ (fun _ => t102) (fun _ => ?_)
        clear hK K
        try simp only [Act.put, zA, zB, zC]
        refine twoL (i := 8) (j := 9) (by kernel_rfl) rfl rfl (by rfl) (by rfl) (fun K hK => ?_) (fun K hK => ?_) 
        · skip
          refine wp_allocM 79 12 rfl rfl (bL fun _ => false) Tryz.allocSet ?_
          have X103 := hid (Cm.new (w := w102) (T := 79) (cs := bL fun _ => false) rfl)
          have t103 : Below w5.heap.size w5 (w102.alloc (.cells (bL fun _ => false).toArray 79)) := t102.alloc t102.size _
          have lt103 : w102.heap.size < (w102.alloc (.cells (bL fun _ => false).toArray 79)).heap.size := X103.out.lt
          have hsz103 := t102.size
          generalize w102.alloc (.cells (bL fun _ => false).toArray 79) = w103 at *
          refine hK.out _ _ (fun _ => t103) (fun _ => ?_)
          clear hK K
          try simp only [Act.put, zA, zB, zC]
          refine onlyL (i := 9) (by kernel_rfl) rfl (by rfl) (fun K hK => ?_)
          refine wp_allocM 79 13 rfl rfl (bL fun _ => false) Tryz.allocSet ?_
          have X104 := hid (Cm.new (w := w103) (T := 79) (cs := bL fun _ => false) rfl)
          have t104 : Below w5.heap.size w5 (w103.alloc (.cells (bL fun _ => false).toArray 79)) := t103.alloc t103.size _
          have lt104 : w103.heap.size < (w103.alloc (.cells (bL fun _ => false).toArray 79)).heap.size := X104.out.lt
          have hsz104 := t103.size
          have Z104 := hid (X103.out.alloc (.cells (bL fun _ => false).toArray 79))
          generalize w103.alloc (.cells (bL fun _ => false).toArray 79) = w104 at *
          refine hK.out _ _ (fun _ => t104) (fun _ => ?_)
          clear hK K
          try simp only [Act.put, zA, zB, zC]
          refine onlyL (i := 10) (by kernel_rfl) rfl (by rfl) (fun K hK => ?_)
          refine wp_storeM 79 (.tmp 12) (.tmp 52) rfl rfl w102.heap.size 0 rfl (bL P) rfl 79 _ Z104.out (by rw [bL_len, bL_len]; exact Nat.le_refl _) (by rw [bL_len]; exact Tryz.sizeSet) (fun v hv => bL_one hv) ?_
          intro y105 hc105 ha105
          rw [lay'_all (by rw [bL_len, bL_len])] at hc105
          have S105 := hid hc105
          have T105 := hid (ha105.cm X104.out (by omega))
          have t105 : Below w5.heap.size w5 y105 := t104.trans (ha105.below (by omega))
          clear hc105 ha105
          refine hK.out _ _ (fun _ => t105) (fun _ => ?_)
          clear hK K
          try simp only [Act.put, zA, zB, zC]
          refine onlyL (i := 11) (by kernel_rfl) rfl (by rfl) (fun K hK => ?_)
          refine wp_storeM 79 (.tmp 13) (.tmp 56) rfl rfl w103.heap.size 0 rfl (bL Q) rfl 79 _ T105.out (by rw [bL_len, bL_len]; exact Nat.le_refl _) (by rw [bL_len]; exact Tryz.sizeSet) (fun v hv => bL_one hv) ?_
          intro x105 hd105 hb105
          rw [lay'_all (by rw [bL_len, bL_len])] at hd105
          have U105 := hid hd105
          have V105 := hid (hb105.cm S105.out (by omega))
          have r105 : Below w5.heap.size w5 x105 := t105.trans (hb105.below (by omega))
          clear hd105 hb105
          refine hK.out _ _ (fun _ => r105) (fun _ => ?_)
          clear hK K
          refine doneL (by kernel_rfl) ?_ _
          try simp only [Act.put, zA, zB, zC]
          go_wp2_with fail
          go_meet
          case rel => exact ⟨w102.heap.size, w103.heap.size, rfl, rfl, V105, U105, r105⟩
        · skip
          refine wp_allocM 79 13 rfl rfl (bL fun _ => false) Tryz.allocSet ?_
          have X106 := hid (Cm.new (w := w102) (T := 79) (cs := bL fun _ => false) rfl)
          have t106 : Below w5.heap.size w5 (w102.alloc (.cells (bL fun _ => false).toArray 79)) := t102.alloc t102.size _
          have lt106 : w102.heap.size < (w102.alloc (.cells (bL fun _ => false).toArray 79)).heap.size := X106.out.lt
          have hsz106 := t102.size
          generalize w102.alloc (.cells (bL fun _ => false).toArray 79) = w106 at *
          refine hK.out _ _ (fun _ => t106) (fun _ => ?_)
          clear hK K
          try simp only [Act.put, zA, zB, zC]
          refine onlyL (i := 8) (by kernel_rfl) rfl (by rfl) (fun K hK => ?_)
          refine wp_allocM 79 12 rfl rfl (bL fun _ => false) Tryz.allocSet ?_
          have X107 := hid (Cm.new (w := w106) (T := 79) (cs := bL fun _ => false) rfl)
          have t107 : Below w5.heap.size w5 (w106.alloc (.cells (bL fun _ => false).toArray 79)) := t106.alloc t106.size _
          have lt107 : w106.heap.size < (w106.alloc (.cells (bL fun _ => false).toArray 79)).heap.size := X107.out.lt
          have hsz107 := t106.size
          have Y107 := hid (X106.out.alloc (.cells (bL fun _ => false).toArray 79))
          generalize w106.alloc (.cells (bL fun _ => false).toArray 79) = w107 at *
          refine hK.out _ _ (fun _ => t107) (fun _ => ?_)
          clear hK K
          try simp only [Act.put, zA, zB, zC]
          refine onlyL (i := 10) (by kernel_rfl) rfl (by rfl) (fun K hK => ?_)
          refine wp_storeM 79 (.tmp 12) (.tmp 52) rfl rfl w106.heap.size 0 rfl (bL P) rfl 79 _ X107.out (by rw [bL_len, bL_len]; exact Nat.le_refl _) (by rw [bL_len]; exact Tryz.sizeSet) (fun v hv => bL_one hv) ?_
          intro y108 hc108 ha108
          rw [lay'_all (by rw [bL_len, bL_len])] at hc108
          have S108 := hid hc108
          have T108 := hid (ha108.cm Y107.out (by omega))
          have t108 : Below w5.heap.size w5 y108 := t107.trans (ha108.below (by omega))
          clear hc108 ha108
          refine hK.out _ _ (fun _ => t108) (fun _ => ?_)
          clear hK K
          try simp only [Act.put, zA, zB, zC]
          refine onlyL (i := 11) (by kernel_rfl) rfl (by rfl) (fun K hK => ?_)
          refine wp_storeM 79 (.tmp 13) (.tmp 56) rfl rfl w102.heap.size 0 rfl (bL Q) rfl 79 _ T108.out (by rw [bL_len, bL_len]; exact Nat.le_refl _) (by rw [bL_len]; exact Tryz.sizeSet) (fun v hv => bL_one hv) ?_
          intro x108 hd108 hb108
          rw [lay'_all (by rw [bL_len, bL_len])] at hd108
          have U108 := hid hd108
          have V108 := hid (hb108.cm S108.out (by omega))
          have r108 : Below w5.heap.size w5 x108 := t108.trans (hb108.below (by omega))
          clear hd108 hb108
          refine hK.out _ _ (fun _ => r108) (fun _ => ?_)
          clear hK K
          refine doneL (by kernel_rfl) ?_ _
          try simp only [Act.put, zA, zB, zC]
          go_wp2_with fail
          go_meet
          case rel => exact ⟨w106.heap.size, w102.heap.size, rfl, rfl, V108, U108, r108⟩
      · skip
        refine wp_allocM 79 12 rfl rfl (bL fun _ => false) Tryz.allocSet ?_
        have X109 := hid (Cm.new (w := w101) (T := 79) (cs := bL fun _ => false) rfl)
        have t109 : Below w5.heap.size w5 (w101.alloc (.cells (bL fun _ => false).toArray 79)) := t101.alloc t101.size _
        have lt109 : w101.heap.size < (w101.alloc (.cells (bL fun _ => false).toArray 79)).heap.size := X109.out.lt
        have hsz109 := t101.size
        generalize w101.alloc (.cells (bL fun _ => false).toArray 79) = w109 at *
        refine hK.out _ _ (fun _ => t109) (fun _ => ?_)
        clear hK K
        try simp only [Act.put, zA, zB, zC]
        refine twoL (i := 7) (j := 9) (by kernel_rfl) rfl rfl (by rfl) (by rfl) (fun K hK => ?_) (fun K hK => ?_) 
        · skip
          go_simp
          refine (KBy.out _).mono ?_
          rintro e w110 ⟨rfl, hb110⟩
          have t110 : Below w5.heap.size w5 w110 := t109.trans (hb110.mono t109.size)
          have Z110 := hid (X109.out.all hb110)
          have lt110 := hb110.size
          clear hb110
          refine hK.out _ _ (fun _ => t110) (fun _ => ?_)
          clear hK K
          try simp only [Act.put, zA, zB, zC]
          refine onlyL (i := 9) (by kernel_rfl) rfl (by rfl) (fun K hK => ?_)
          refine wp_allocM 79 13 rfl rfl (bL fun _ => false) Tryz.allocSet ?_
          have X111 := hid (Cm.new (w := w110) (T := 79) (cs := bL fun _ => false) rfl)
          have t111 : Below w5.heap.size w5 (w110.alloc (.cells (bL fun _ => false).toArray 79)) := t110.alloc t110.size _
          have lt111 : w110.heap.size < (w110.alloc (.cells (bL fun _ => false).toArray 79)).heap.size := X111.out.lt
          have hsz111 := t110.size
          have Z111 := hid (Z110.out.alloc (.cells (bL fun _ => false).toArray 79))
          generalize w110.alloc (.cells (bL fun _ => false).toArray 79) = w111 at *
          refine hK.out _ _ (fun _ => t111) (fun _ => ?_)
          clear hK K
          try simp only [Act.put, zA, zB, zC]
          refine onlyL (i := 10) (by kernel_rfl) rfl (by rfl) (fun K hK => ?_)
          refine wp_storeM 79 (.tmp 12) (.tmp 52) rfl rfl w101.heap.size 0 rfl (bL P) rfl 79 _ Z111.out (by rw [bL_len, bL_len]; exact Nat.le_refl _) (by rw [bL_len]; exact Tryz.sizeSet) (fun v hv => bL_one hv) ?_
          intro y112 hc112 ha112
          rw [lay'_all (by rw [bL_len, bL_len])] at hc112
          have S112 := hid hc112
          have T112 := hid (ha112.cm X111.out (by omega))
          have t112 : Below w5.heap.size w5 y112 := t111.trans (ha112.below (by omega))
          clear hc112 ha112
          refine hK.out _ _ (fun _ => t112) (fun _ => ?_)
          clear hK K
          try simp only [Act.put, zA, zB, zC]
          refine onlyL (i := 11) (by kernel_rfl) rfl (by rfl) (fun K hK => ?_)
          refine wp_storeM 79 (.tmp 13) (.tmp 56) rfl rfl w110.heap.size 0 rfl (bL Q) rfl 79 _ T112.out (by rw [bL_len, bL_len]; exact Nat.le_refl _) (by rw [bL_len]; exact Tryz.sizeSet) (fun v hv => bL_one hv) ?_
          intro x112 hd112 hb112
          rw [lay'_all (by rw [bL_len, bL_len])] at hd112
          have U112 := hid hd112
          have V112 := hid (hb112.cm S112.out (by omega))
          have r112 : Below w5.heap.size w5 x112 := t112.trans (hb112.below (by omega))
          clear hd112 hb112
          refine hK.out _ _ (fun _ => r112) (fun _ => ?_)
          clear hK K
          refine doneL (by kernel_rfl) ?_ _
          try simp only [Act.put, zA, zB, zC]
          go_wp2_with fail
          go_meet
          case rel => exact ⟨w101.heap.size, w110.heap.size, rfl, rfl, V112, U112, r112⟩
        · skip
          refine wp_allocM 79 13 rfl rfl (bL fun _ => false) Tryz.allocSet ?_
          have X113 := hid (Cm.new (w := w109) (T := 79) (cs := bL fun _ => false) rfl)
          have t113 : Below w5.heap.size w5 (w109.alloc (.cells (bL fun _ => false).toArray 79)) := t109.alloc t109.size _
          have lt113 : w109.heap.size < (w109.alloc (.cells (bL fun _ => false).toArray 79)).heap.size := X113.out.lt
          have hsz113 := t109.size
          have Z113 := hid (X109.out.alloc (.cells (bL fun _ => false).toArray 79))
          generalize w109.alloc (.cells (bL fun _ => false).toArray 79) = w113 at *
          refine hK.out _ _ (fun _ => t113) (fun _ => ?_)
          clear hK K
          try simp only [Act.put, zA, zB, zC]
          refine onlyL (i := 7) (by kernel_rfl) rfl (by rfl) (fun K hK => ?_)
          go_simp
          refine (KBy.out _).mono ?_
          rintro e w114 ⟨rfl, hb114⟩
          have t114 : Below w5.heap.size w5 w114 := t113.trans (hb114.mono t113.size)
          have Z114 := hid (Z113.out.all hb114)
          have Y114 := hid (X113.out.all hb114)
          have lt114 := hb114.size
          clear hb114
          refine hK.out _ _ (fun _ => t114) (fun _ => ?_)
          clear hK K
          try simp only [Act.put, zA, zB, zC]
          refine onlyL (i := 10) (by kernel_rfl) rfl (by rfl) (fun K hK => ?_)
          refine wp_storeM 79 (.tmp 12) (.tmp 52) rfl rfl w101.heap.size 0 rfl (bL P) rfl 79 _ Z114.out (by rw [bL_len, bL_len]; exact Nat.le_refl _) (by rw [bL_len]; exact Tryz.sizeSet) (fun v hv => bL_one hv) ?_
          intro y115 hc115 ha115
          rw [lay'_all (by rw [bL_len, bL_len])] at hc115
          have S115 := hid hc115
          have T115 := hid (ha115.cm Y114.out (by omega))
          have t115 : Below w5.heap.size w5 y115 := t114.trans (ha115.below (by omega))
          clear hc115 ha115
          refine hK.out _ _ (fun _ => t115) (fun _ => ?_)
          clear hK K
          try simp only [Act.put, zA, zB, zC]
          refine onlyL (i := 11) (by kernel_rfl) rfl (by rfl) (fun K hK => ?_)
          refine wp_storeM 79 (.tmp 13) (.tmp 56) rfl rfl w109.heap.size 0 rfl (bL Q) rfl 79 _ T115.out (by rw [bL_len, bL_len]; exact Nat.le_refl _) (by rw [bL_len]; exact Tryz.sizeSet) (fun v hv => bL_one hv) ?_
          intro x115 hd115 hb115
          rw [lay'_all (by rw [bL_len, bL_len])] at hd115
          have U115 := hid hd115
          have V115 := hid (hb115.cm S115.out (by omega))
          have r115 : Below w5.heap.size w5 x115 := t115.trans (hb115.below (by omega))
          clear hd115 hb115
          refine hK.out _ _ (fun _ => r115) (fun _ => ?_)
          clear hK K
          refine doneL (by kernel_rfl) ?_ _
          try simp only [Act.put, zA, zB, zC]
          go_wp2_with fail
          go_meet
          case rel => exact ⟨w101.heap.size, w109.heap.size, rfl, rfl, V115, U115, r115⟩
      · skip
        refine wp_allocM 79 13 rfl rfl (bL fun _ => false) Tryz.allocSet ?_
        have X116 := hid (Cm.new (w := w101) (T := 79) (cs := bL fun _ => false) rfl)
        have t116 : Below w5.heap.size w5 (w101.alloc (.cells (bL fun _ => false).toArray 79)) := t101.alloc t101.size _
        have lt116 : w101.heap.size < (w101.alloc (.cells (bL fun _ => false).toArray 79)).heap.size := X116.out.lt
        have hsz116 := t101.size
        generalize w101.alloc (.cells (bL fun _ => false).toArray 79) = w116 at *
        refine hK.out _ _ (fun _ => t116) (fun _ => ?_)
        clear hK K
        try simp only [Act.put, zA, zB, zC]
        refine twoL (i := 7) (j := 8) (by kernel_rfl) rfl rfl (by rfl) (by rfl) (fun K hK => ?_) (fun K hK => ?_) 
        · skip
          go_simp
          refine (KBy.out _).mono ?_
          rintro e w117 ⟨rfl, hb117⟩
          have t117 : Below w5.heap.size w5 w117 := t116.trans (hb117.mono t116.size)
          have Y117 := hid (X116.out.all hb117)
          have lt117 := hb117.size
          clear hb117
          refine hK.out _ _ (fun _ => t117) (fun _ => ?_)
          clear hK K
          try simp only [Act.put, zA, zB, zC]
          refine onlyL (i := 8) (by kernel_rfl) rfl (by rfl) (fun K hK => ?_)
          refine wp_allocM 79 12 rfl rfl (bL fun _ => false) Tryz.allocSet ?_
          have X118 := hid (Cm.new (w := w117) (T := 79) (cs := bL fun _ => false) rfl)
          have t118 : Below w5.heap.size w5 (w117.alloc (.cells (bL fun _ => false).toArray 79)) := t117.alloc t117.size _
          have lt118 : w117.heap.size < (w117.alloc (.cells (bL fun _ => false).toArray 79)).heap.size := X118.out.lt
          have hsz118 := t117.size
          have Y118 := hid (Y117.out.alloc (.cells (bL fun _ => false).toArray 79))
          generalize w117.alloc (.cells (bL fun _ => false).toArray 79) = w118 at *
          refine hK.out _ _ (fun _ => t118) (fun _ => ?_)
          clear hK K
          try simp only [Act.put, zA, zB, zC]
          refine onlyL (i := 10) (by kernel_rfl) rfl (by rfl) (fun K hK => ?_)
          refine wp_storeM 79 (.tmp 12) (.tmp 52) rfl rfl w117.heap.size 0 rfl (bL P) rfl 79 _ X118.out (by rw [bL_len, bL_len]; exact Nat.le_refl _) (by rw [bL_len]; exact Tryz.sizeSet) (fun v hv => bL_one hv) ?_
          intro y119 hc119 ha119
          rw [lay'_all (by rw [bL_len, bL_len])] at hc119
          have S119 := hid hc119
          have T119 := hid (ha119.cm Y118.out (by omega))
          have t119 : Below w5.heap.size w5 y119 := t118.trans (ha119.below (by omega))
          clear hc119 ha119
          refine hK.out _ _ (fun _ => t119) (fun _ => ?_)
          clear hK K
          try simp only [Act.put, zA, zB, zC]
          refine onlyL (i := 11) (by kernel_rfl) rfl (by rfl) (fun K hK => ?_)
          refine wp_storeM 79 (.tmp 13) (.tmp 56) rfl rfl w101.heap.size 0 rfl (bL Q) rfl 79 _ T119.out (by rw [bL_len, bL_len]; exact Nat.le_refl _) (by rw [bL_len]; exact Tryz.sizeSet) (fun v hv => bL_one hv) ?_
          intro x119 hd119 hb119
          rw [lay'_all (by rw [bL_len, bL_len])] at hd119
          have U119 := hid hd119
          have V119 := hid (hb119.cm S119.out (by omega))
          have r119 : Below w5.heap.size w5 x119 := t119.trans (hb119.below (by omega))
          clear hd119 hb119
          refine hK.out _ _ (fun _ => r119) (fun _ => ?_)
          clear hK K
          refine doneL (by kernel_rfl) ?_ _
          try simp only [Act.put, zA, zB, zC]
          go_wp2_with fail
          go_meet
          case rel => exact ⟨w117.heap.size, w101.heap.size, rfl, rfl, V119, U119, r119⟩
        · skip
          refine wp_allocM 79 12 rfl rfl (bL fun _ => false) Tryz.allocSet ?_
          have X120 := hid (Cm.new (w := w116) (T := 79) (cs := bL fun _ => false) rfl)
          have t120 : Below w5.heap.size w5 (w116.alloc (.cells (bL fun _ => false).toArray 79)) := t116.alloc t116.size _
          have lt120 : w116.heap.size < (w116.alloc (.cells (bL fun _ => false).toArray 79)).heap.size := X120.out.lt
          have hsz120 := t116.size
          have Y120 := hid (X116.out.alloc (.cells (bL fun _ => false).toArray 79))
          generalize w116.alloc (.cells (bL fun _ => false).toArray 79) = w120 at *
          refine hK.out _ _ (fun _ => t120) (fun _ => ?_)
          clear hK K
          try simp only [Act.put, zA, zB, zC]
          refine onlyL (i := 7) (by kernel_rfl) rfl (by rfl) (fun K hK => ?_)
          go_simp
          refine (KBy.out _).mono ?_
          rintro e w121 ⟨rfl, hb121⟩
          have t121 : Below w5.heap.size w5 w121 := t120.trans (hb121.mono t120.size)
          have Z121 := hid (X120.out.all hb121)
          have Y121 := hid (Y120.out.all hb121)
          have lt121 := hb121.size
          clear hb121
          refine hK.out _ _ (fun _ => t121) (fun _ => ?_)
          clear hK K
          try simp only [Act.put, zA, zB, zC]
          refine onlyL (i := 10) (by kernel_rfl) rfl (by rfl) (fun K hK => ?_)
          refine wp_storeM 79 (.tmp 12) (.tmp 52) rfl rfl w116.heap.size 0 rfl (bL P) rfl 79 _ Z121.out (by rw [bL_len, bL_len]; exact Nat.le_refl _) (by rw [bL_len]; exact Tryz.sizeSet) (fun v hv => bL_one hv) ?_
          intro y122 hc122 ha122
          rw [lay'_all (by rw [bL_len, bL_len])] at hc122
          have S122 := hid hc122
          have T122 := hid (ha122.cm Y121.out (by omega))
          have t122 : Below w5.heap.size w5 y122 := t121.trans (ha122.below (by omega))
          clear hc122 ha122
          refine hK.out _ _ (fun _ => t122) (fun _ => ?_)
          clear hK K
          try simp only [Act.put, zA, zB, zC]
          refine onlyL (i := 11) (by kernel_rfl) rfl (by rfl) (fun K hK => ?_)
          refine wp_storeM 79 (.tmp 13) (.tmp 56) rfl rfl w101.heap.size 0 rfl (bL Q) rfl 79 _ T122.out (by rw [bL_len, bL_len]; exact Nat.le_refl _) (by rw [bL_len]; exact Tryz.sizeSet) (fun v hv => bL_one hv) ?_
          intro x122 hd122 hb122
          rw [lay'_all (by rw [bL_len, bL_len])] at hd122
          have U122 := hid hd122
          have V122 := hid (hb122.cm S122.out (by omega))
          have r122 : Below w5.heap.size w5 x122 := t122.trans (hb122.below (by omega))
          clear hd122 hb122
          refine hK.out _ _ (fun _ => r122) (fun _ => ?_)
          clear hK K
          refine doneL (by kernel_rfl) ?_ _
          try simp only [Act.put, zA, zB, zC]
          go_wp2_with fail
          go_meet
          case rel => exact ⟨w116.heap.size, w101.heap.size, rfl, rfl, V122, U122, r122⟩
    · skip
      refine wp_allocM 79 12 rfl rfl (bL fun _ => false) Tryz.allocSet ?_
      have X123 := hid (Cm.new (w := wd) (T := 79) (cs := bL fun _ => false) rfl)
      have t123 : Below w5.heap.size w5 (wd.alloc (.cells (bL fun _ => false).toArray 79)) := hHeld.alloc hHeld.size _
      have lt123 : wd.heap.size < (wd.alloc (.cells (bL fun _ => false).toArray 79)).heap.size := X123.out.lt
      have hsz123 := hHeld.size
      generalize wd.alloc (.cells (bL fun _ => false).toArray 79) = w123 at *
      refine hK.out _ _ (fun _ => t123) (fun _ => ?_)
      clear hK K
      try simp only [Act.put, zA, zB, zC]
      refine twoL (i := 3) (j := 9) (by kernel_rfl) rfl rfl (by rfl) (by rfl) (fun K hK => ?_) (fun K hK => ?_) 
      · skip
        go_simp
        refine (KBx.out _).mono ?_
        rintro e w124 ⟨rfl, hb124⟩
        have t124 : Below w5.heap.size w5 w124 := t123.trans (hb124.mono t123.size)
        have Z124 := hid (X123.out.all hb124)
        have lt124 := hb124.size
        clear hb124
        refine hK.out _ _ (fun _ => t124) (fun _ => ?_)
        clear hK K
        try simp only [Act.put, zA, zB, zC]
        refine twoL (i := 7) (j := 9) (by kernel_rfl) rfl rfl (by rfl) (by rfl) (fun K hK => ?_) (fun K hK => ?_) 
        · skip
          go_simp
          refine (KBy.out _).mono ?_
          rintro e w125 ⟨rfl, hb125⟩
          have t125 : Below w5.heap.size w5 w125 := t124.trans (hb125.mono t124.size)
          have Z125 := hid (Z124.out.all hb125)
          have lt125 := hb125.size
          clear hb125
          refine hK.out _ _ (fun _ => t125) (fun _ => ?_)
          clear hK K
          try simp only [Act.put, zA, zB, zC]
          refine onlyL (i := 9) (by kernel_rfl) rfl (by rfl) (fun K hK => ?_)
          refine wp_allocM 79 13 rfl rfl (bL fun _ => false) Tryz.allocSet ?_
          have X126 := hid (Cm.new (w := w125) (T := 79) (cs := bL fun _ => false) rfl)
          have t126 : Below w5.heap.size w5 (w125.alloc (.cells (bL fun _ => false).toArray 79)) := t125.alloc t125.size _
          have lt126 : w125.heap.size < (w125.alloc (.cells (bL fun _ => false).toArray 79)).heap.size := X126.out.lt
          have hsz126 := t125.size
          have Z126 := hid (Z125.out.alloc (.cells (bL fun _ => false).toArray 79))
          generalize w125.alloc (.cells (bL fun _ => false).toArray 79) = w126 at *
          refine hK.out _ _ (fun _ => t126) (fun _ => ?_)
          clear hK K
          try simp only [Act.put, zA, zB, zC]
          refine onlyL (i := 10) (by kernel_rfl) rfl (by rfl) (fun K hK => ?_)
          refine wp_storeM 79 (.tmp 12) (.tmp 52) rfl rfl wd.heap.size 0 rfl (bL P) rfl 79 _ Z126.out (by rw [bL_len, bL_len]; exact Nat.le_refl _) (by rw [bL_len]; exact Tryz.sizeSet) (fun v hv => bL_one hv) ?_
          intro y127 hc127 ha127
          rw [lay'_all (by rw [bL_len, bL_len])] at hc127
          have S127 := hid hc127
          have T127 := hid (ha127.cm X126.out (by omega))
          have t127 : Below w5.heap.size w5 y127 := t126.trans (ha127.below (by omega))
          clear hc127 ha127
          refine hK.out _ _ (fun _ => t127) (fun _ => ?_)
          clear hK K
          try simp only [Act.put, zA, zB, zC]
          refine onlyL (i := 11) (by kernel_rfl) rfl (by rfl) (fun K hK => ?_)
          refine wp_storeM 79 (.tmp 13) (.tmp 56) rfl rfl w125.heap.size 0 rfl (bL Q) rfl 79 _ T127.out (by rw [bL_len, bL_len]; exact Nat.le_refl _) (by rw [bL_len]; exact Tryz.sizeSet) (fun v hv => bL_one hv) ?_
          intro x127 hd127 hb127
          rw [lay'_all (by rw [bL_len, bL_len])] at hd127
          have U127 := hid hd127
          have V127 := hid (hb127.cm S127.out (by omega))
          have r127 : Below w5.heap.size w5 x127 := t127.trans (hb127.below (by omega))
          clear hd127 hb127
          refine hK.out _ _ (fun _ => r127) (fun _ => ?_)
          clear hK K
          refine doneL (by kernel_rfl) ?_ _
          try simp only [Act.put, zA, zB, zC]
          go_wp2_with fail
          go_meet
          case rel => exact ⟨wd.heap.size, w125.heap.size, rfl, rfl, V127, U127, r127⟩
        · skip
          refine wp_allocM 79 13 rfl rfl (bL fun _ => false) Tryz.allocSet ?_
          have X128 := hid (Cm.new (w := w124) (T := 79) (cs := bL fun _ => false) rfl)
          have t128 : Below w5.heap.size w5 (w124.alloc (.cells (bL fun _ => false).toArray 79)) := t124.alloc t124.size _
          have lt128 : w124.heap.size < (w124.alloc (.cells (bL fun _ => false).toArray 79)).heap.size := X128.out.lt
          have hsz128 := t124.size
          have Z128 := hid (Z124.out.alloc (.cells (bL fun _ => false).toArray 79))
          generalize w124.alloc (.cells (bL fun _ => false).toArray 79) = w128 at *
          refine hK.out _ _ (fun _ => t128) (fun _ => ?_)
          clear hK K
          try simp only [Act.put, zA, zB, zC]
          refine onlyL (i := 7) (by kernel_rfl) rfl (by rfl) (fun K hK => ?_)
          go_simp
          refine (KBy.out _).mono ?_
          rintro e w129 ⟨rfl, hb129⟩
          have t129 : Below w5.heap.size w5 w129 := t128.trans (hb129.mono t128.size)
          have Z129 := hid (Z128.out.all hb129)
          have Y129 := hid (X128.out.all hb129)
          have lt129 := hb129.size
          clear hb129
          refine hK.out _ _ (fun _ => t129) (fun _ => ?_)
          clear hK K
          try simp only [Act.put, zA, zB, zC]
          refine onlyL (i := 10) (by kernel_rfl) rfl (by rfl) (fun K hK => ?_)
          refine wp_storeM 79 (.tmp 12) (.tmp 52) rfl rfl wd.heap.size 0 rfl (bL P) rfl 79 _ Z129.out (by rw [bL_len, bL_len]; exact Nat.le_refl _) (by rw [bL_len]; exact Tryz.sizeSet) (fun v hv => bL_one hv) ?_
          intro y130 hc130 ha130
          rw [lay'_all (by rw [bL_len, bL_len])] at hc130
          have S130 := hid hc130
          have T130 := hid (ha130.cm Y129.out (by omega))
          have t130 : Below w5.heap.size w5 y130 := t129.trans (ha130.below (by omega))
          clear hc130 ha130
          refine hK.out _ _ (fun _ => t130) (fun _ => ?_)
          clear hK K
          try simp only [Act.put, zA, zB, zC]
          refine onlyL (i := 11) (by kernel_rfl) rfl (by rfl) (fun K hK => ?_)
          refine wp_storeM 79 (.tmp 13) (.tmp 56) rfl rfl w124.heap.size 0 rfl (bL Q) rfl 79 _ T130.out (by rw [bL_len, bL_len]; exact Nat.le_refl _) (by rw [bL_len]; exact Tryz.sizeSet) (fun v hv => bL_one hv) ?_
          intro x130 hd130 hb130
          rw [lay'_all (by rw [bL_len, bL_len])] at hd130
          have U130 := hid hd130
          have V130 := hid (hb130.cm S130.out (by omega))
          have r130 : Below w5.heap.size w5 x130 := t130.trans (hb130.below (by omega))
          clear hd130 hb130
          refine hK.out _ _ (fun _ => r130) (fun _ => ?_)
          clear hK K
          refine doneL (by kernel_rfl) ?_ _
          try simp only [Act.put, zA, zB, zC]
          go_wp2_with fail
          go_meet
          case rel => exact ⟨wd.heap.size, w124.heap.size, rfl, rfl, V130, U130, r130⟩
      · skip
        refine wp_allocM 79 13 rfl rfl (bL fun _ => false) Tryz.allocSet ?_
        have X131 := hid (Cm.new (w := w123) (T := 79) (cs := bL fun _ => false) rfl)
        have t131 : Below w5.heap.size w5 (w123.alloc (.cells (bL fun _ => false).toArray 79)) := t123.alloc t123.size _
        have lt131 : w123.heap.size < (w123.alloc (.cells (bL fun _ => false).toArray 79)).heap.size := X131.out.lt
        have hsz131 := t123.size
        have Z131 := hid (X123.out.alloc (.cells (bL fun _ => false).toArray 79))
        generalize w123.alloc (.cells (bL fun _ => false).toArray 79) = w131 at *
        refine hK.out _ _ (fun _ => t131) (fun _ => ?_)
        clear hK K
        try simp only [Act.put, zA, zB, zC]
        refine onlyL (i := 3) (by kernel_rfl) rfl (by rfl) (fun K hK => ?_)
        go_simp
        refine (KBx.out _).mono ?_
        rintro e w132 ⟨rfl, hb132⟩
        have t132 : Below w5.heap.size w5 w132 := t131.trans (hb132.mono t131.size)
        have Z132 := hid (Z131.out.all hb132)
        have Y132 := hid (X131.out.all hb132)
        have lt132 := hb132.size
        clear hb132
        refine hK.out _ _ (fun _ => t132) (fun _ => ?_)
        clear hK K
        try simp only [Act.put, zA, zB, zC]
        refine onlyL (i := 7) (by kernel_rfl) rfl (by rfl) (fun K hK => ?_)
        go_simp
        refine (KBy.out _).mono ?_
        rintro e w133 ⟨rfl, hb133⟩
        have t133 : Below w5.heap.size w5 w133 := t132.trans (hb133.mono t132.size)
        have Z133 := hid (Z132.out.all hb133)
        have Y133 := hid (Y132.out.all hb133)
        have lt133 := hb133.size
        clear hb133
        refine hK.out _ _ (fun _ => t133) (fun _ => ?_)
        clear hK K
        try simp only [Act.put, zA, zB, zC]
        refine onlyL (i := 10) (by kernel_rfl) rfl (by rfl) (fun K hK => ?_)
        refine wp_storeM 79 (.tmp 12) (.tmp 52) rfl rfl wd.heap.size 0 rfl (bL P) rfl 79 _ Z133.out (by rw [bL_len, bL_len]; exact Nat.le_refl _) (by rw [bL_len]; exact Tryz.sizeSet) (fun v hv => bL_one hv) ?_
        intro y134 hc134 ha134
        rw [lay'_all (by rw [bL_len, bL_len])] at hc134
        have S134 := hid hc134
        have T134 := hid (ha134.cm Y133.out (by omega))
        have t134 : Below w5.heap.size w5 y134 := t133.trans (ha134.below (by omega))
        clear hc134 ha134
        refine hK.out _ _ (fun _ => t134) (fun _ => ?_)
        clear hK K
        try simp only [Act.put, zA, zB, zC]
        refine onlyL (i := 11) (by kernel_rfl) rfl (by rfl) (fun K hK => ?_)
        refine wp_storeM 79 (.tmp 13) (.tmp 56) rfl rfl w123.heap.size 0 rfl (bL Q) rfl 79 _ T134.out (by rw [bL_len, bL_len]; exact Nat.le_refl _) (by rw [bL_len]; exact Tryz.sizeSet) (fun v hv => bL_one hv) ?_
        intro x134 hd134 hb134
        rw [lay'_all (by rw [bL_len, bL_len])] at hd134
        have U134 := hid hd134
        have V134 := hid (hb134.cm S134.out (by omega))
        have r134 : Below w5.heap.size w5 x134 := t134.trans (hb134.below (by omega))
        clear hd134 hb134
        refine hK.out _ _ (fun _ => r134) (fun _ => ?_)
        clear hK K
        refine doneL (by kernel_rfl) ?_ _
        try simp only [Act.put, zA, zB, zC]
        go_wp2_with fail
        go_meet
        case rel => exact ⟨wd.heap.size, w123.heap.size, rfl, rfl, V134, U134, r134⟩
    · skip
      refine wp_allocM 79 13 rfl rfl (bL fun _ => false) Tryz.allocSet ?_
      have X135 := hid (Cm.new (w := wd) (T := 79) (cs := bL fun _ => false) rfl)
      have t135 : Below w5.heap.size w5 (wd.alloc (.cells (bL fun _ => false).toArray 79)) := hHeld.alloc hHeld.size _
      have lt135 : wd.heap.size < (wd.alloc (.cells (bL fun _ => false).toArray 79)).heap.size := X135.out.lt
      have hsz135 := hHeld.size
      generalize wd.alloc (.cells (bL fun _ => false).toArray 79) = w135 at *
      refine hK.out _ _ (fun _ => t135) (fun _ => ?_)
      clear hK K
      try simp only [Act.put, zA, zB, zC]
      refine twoL (i := 3) (j := 8) (by kernel_rfl) rfl rfl (by rfl) (by rfl) (fun K hK => ?_) (fun K hK => ?_) 
      · skip
        go_simp
        refine (KBx.out _).mono ?_
        rintro e w136 ⟨rfl, hb136⟩
        have t136 : Below w5.heap.size w5 w136 := t135.trans (hb136.mono t135.size)
        have Y136 := hid (X135.out.all hb136)
        have lt136 := hb136.size
        clear hb136
        refine hK.out _ _ (fun _ => t136) (fun _ => ?_)
        clear hK K
        try simp only [Act.put, zA, zB, zC]
        refine twoL (i := 7) (j := 8) (by kernel_rfl) rfl rfl (by rfl) (by rfl) (fun K hK => ?_) (fun K hK => ?_) 
        · skip
          go_simp
          refine (KBy.out _).mono ?_
          rintro e w137 ⟨rfl, hb137⟩
          have t137 : Below w5.heap.size w5 w137 := t136.trans (hb137.mono t136.size)
          have Y137 := hid (Y136.out.all hb137)
          have lt137 := hb137.size
          clear hb137
          refine hK.out _ _ (fun _ => t137) (fun _ => ?_)
          clear hK K
          try simp only [Act.put, zA, zB, zC]
          refine onlyL (i := 8) (by kernel_rfl) rfl (by rfl) (fun K hK => ?_)
          refine wp_allocM 79 12 rfl rfl (bL fun _ => false) Tryz.allocSet ?_
          have X138 := hid (Cm.new (w := w137) (T := 79) (cs := bL fun _ => false) rfl)
          have t138 : Below w5.heap.size w5 (w137.alloc (.cells (bL fun _ => false).toArray 79)) := t137.alloc t137.size _
          have lt138 : w137.heap.size < (w137.alloc (.cells (bL fun _ => false).toArray 79)).heap.size := X138.out.lt
          have hsz138 := t137.size
          have Y138 := hid (Y137.out.alloc (.cells (bL fun _ => false).toArray 79))
          generalize w137.alloc (.cells (bL fun _ => false).toArray 79) = w138 at *
          refine hK.out _ _ (fun _ => t138) (fun _ => ?_)
          clear hK K
          try simp only [Act.put, zA, zB, zC]
          refine onlyL (i := 10) (by kernel_rfl) rfl (by rfl) (fun K hK => ?_)
          refine wp_storeM 79 (.tmp 12) (.tmp 52) rfl rfl w137.heap.size 0 rfl (bL P) rfl 79 _ X138.out (by rw [bL_len, bL_len]; exact Nat.le_refl _) (by rw [bL_len]; exact Tryz.sizeSet) (fun v hv => bL_one hv) ?_
          intro y139 hc139 ha139
          rw [lay'_all (by rw [bL_len, bL_len])] at hc139
          have S139 := hid hc139
          have T139 := hid (ha139.cm Y138.out (by omega))
          have t139 : Below w5.heap.size w5 y139 := t138.trans (ha139.below (by omega))
          clear hc139 ha139
          refine hK.out _ _ (fun _ => t139) (fun _ => ?_)
          clear hK K
          try simp only [Act.put, zA, zB, zC]
          refine onlyL (i := 11) (by kernel_rfl) rfl (by rfl) (fun K hK => ?_)
          refine wp_storeM 79 (.tmp 13) (.tmp 56) rfl rfl wd.heap.size 0 rfl (bL Q) rfl 79 _ T139.out (by rw [bL_len, bL_len]; exact Nat.le_refl _) (by rw [bL_len]; exact Tryz.sizeSet) (fun v hv => bL_one hv) ?_
          intro x139 hd139 hb139
          rw [lay'_all (by rw [bL_len, bL_len])] at hd139
          have U139 := hid hd139
          have V139 := hid (hb139.cm S139.out (by omega))
          have r139 : Below w5.heap.size w5 x139 := t139.trans (hb139.below (by omega))
          clear hd139 hb139
          refine hK.out _ _ (fun _ => r139) (fun _ => ?_)
          clear hK K
          refine doneL (by kernel_rfl) ?_ _
          try simp only [Act.put, zA, zB, zC]
          go_wp2_with fail
          go_meet
          case rel => exact ⟨w137.heap.size, wd.heap.size, rfl, rfl, V139, U139, r139⟩
        · skip
          refine wp_allocM 79 12 rfl rfl (bL fun _ => false) Tryz.allocSet ?_
          have X140 := hid (Cm.new (w := w136) (T := 79) (cs := bL fun _ => false) rfl)
          have t140 : Below w5.heap.size w5 (w136.alloc (.cells (bL fun _ => false).toArray 79)) := t136.alloc t136.size _
          have lt140 : w136.heap.size < (w136.alloc (.cells (bL fun _ => false).toArray 79)).heap.size := X140.out.lt
          have hsz140 := t136.size
          have Y140 := hid (Y136.out.alloc (.cells (bL fun _ => false).toArray 79))
          generalize w136.alloc (.cells (bL fun _ => false).toArray 79) = w140 at *
          refine hK.out _ _ (fun _ => t140) (fun _ => ?_)
          clear hK K
          try simp only [Act.put, zA, zB, zC]
          refine onlyL (i := 7) (by kernel_rfl) rfl (by rfl) (fun K hK => ?_)
          go_simp
          refine (KBy.out _).mono ?_
          rintro e w141 ⟨rfl, hb141⟩
          have t141 : Below w5.heap.size w5 w141 := t140.trans (hb141.mono t140.size)
          have Z141 := hid (X140.out.all hb141)
          have Y141 := hid (Y140.out.all hb141)
          have lt141 := hb141.size
          clear hb141
          refine hK.out _ _ (fun _ => t141) (fun _ => ?_)
          clear hK K
          try simp only [Act.put, zA, zB, zC]
          refine onlyL (i := 10) (by kernel_rfl) rfl (by rfl) (fun K hK => ?_)
          refine wp_storeM 79 (.tmp 12) (.tmp 52) rfl rfl w136.heap.size 0 rfl (bL P) rfl 79 _ Z141.out (by rw [bL_len, bL_len]; exact Nat.le_refl _) (by rw [bL_len]; exact Tryz.sizeSet) (fun v hv => bL_one hv) ?_
          intro y142 hc142 ha142
          rw [lay'_all (by rw [bL_len, bL_len])] at hc142
          have S142 := hid hc142
          have T142 := hid (ha142.cm Y141.out (by omega))
          have t142 : Below w5.heap.size w5 y142 := t141.trans (ha142.below (by omega))
          clear hc142 ha142
          refine hK.out _ _ (fun _ => t142) (fun _ => ?_)
          clear hK K
          try simp only [Act.put, zA, zB, zC]
          refine onlyL (i := 11) (by kernel_rfl) rfl (by rfl) (fun K hK => ?_)
          refine wp_storeM 79 (.tmp 13) (.tmp 56) rfl rfl wd.heap.size 0 rfl (bL Q) rfl 79 _ T142.out (by rw [bL_len, bL_len]; exact Nat.le_refl _) (by rw [bL_len]; exact Tryz.sizeSet) (fun v hv => bL_one hv) ?_
          intro x142 hd142 hb142
          rw [lay'_all (by rw [bL_len, bL_len])] at hd142
          have U142 := hid hd142
          have V142 := hid (hb142.cm S142.out (by omega))
          have r142 : Below w5.heap.size w5 x142 := t142.trans (hb142.below (by omega))
          clear hd142 hb142
          refine hK.out _ _ (fun _ => r142) (fun _ => ?_)
          clear hK K
          refine doneL (by kernel_rfl) ?_ _
          try simp only [Act.put, zA, zB, zC]
          go_wp2_with fail
          go_meet
          case rel => exact ⟨w136.heap.size, wd.heap.size, rfl, rfl, V142, U142, r142⟩
      · skip
        refine wp_allocM 79 12 rfl rfl (bL fun _ => false) Tryz.allocSet ?_
        have X143 := hid (Cm.new (w := w135) (T := 79) (cs := bL fun _ => false) rfl)
        have t143 : Below w5.heap.size w5 (w135.alloc (.cells (bL fun _ => false).toArray 79)) := t135.alloc t135.size _
        have lt143 : w135.heap.size < (w135.alloc (.cells (bL fun _ => false).toArray 79)).heap.size := X143.out.lt
        have hsz143 := t135.size
        have Y143 := hid (X135.out.alloc (.cells (bL fun _ => false).toArray 79))
        generalize w135.alloc (.cells (bL fun _ => false).toArray 79) = w143 at *
        refine hK.out _ _ (fun _ => t143) (fun _ => ?_)
        clear hK K
        try simp only [Act.put, zA, zB, zC]
        refine onlyL (i := 3) (by kernel_rfl) rfl (by rfl) (fun K hK => ?_)
        go_simp
        refine (KBx.out _).mono ?_
        rintro e w144 ⟨rfl, hb144⟩
        have t144 : Below w5.heap.size w5 w144 := t143.trans (hb144.mono t143.size)
        have Z144 := hid (X143.out.all hb144)
        have Y144 := hid (Y143.out.all hb144)
        have lt144 := hb144.size
        clear hb144
        refine hK.out _ _ (fun _ => t144) (fun _ => ?_)
        clear hK K
        try simp only [Act.put, zA, zB, zC]
        refine onlyL (i := 7) (by kernel_rfl) rfl (by rfl) (fun K hK => ?_)
        go_simp
        refine (KBy.out _).mono ?_
        rintro e w145 ⟨rfl, hb145⟩
        have t145 : Below w5.heap.size w5 w145 := t144.trans (hb145.mono t144.size)
        have Z145 := hid (Z144.out.all hb145)
        have Y145 := hid (Y144.out.all hb145)
        have lt145 := hb145.size
        clear hb145
        refine hK.out _ _ (fun _ => t145) (fun _ => ?_)
        clear hK K
        try simp only [Act.put, zA, zB, zC]
        refine onlyL (i := 10) (by kernel_rfl) rfl (by rfl) (fun K hK => ?_)
        refine wp_storeM 79 (.tmp 12) (.tmp 52) rfl rfl w135.heap.size 0 rfl (bL P) rfl 79 _ Z145.out (by rw [bL_len, bL_len]; exact Nat.le_refl _) (by rw [bL_len]; exact Tryz.sizeSet) (fun v hv => bL_one hv) ?_
        intro y146 hc146 ha146
        rw [lay'_all (by rw [bL_len, bL_len])] at hc146
        have S146 := hid hc146
        have T146 := hid (ha146.cm Y145.out (by omega))
        have t146 : Below w5.heap.size w5 y146 := t145.trans (ha146.below (by omega))
        clear hc146 ha146
        refine hK.out _ _ (fun _ => t146) (fun _ => ?_)
        clear hK K
        try simp only [Act.put, zA, zB, zC]
        refine onlyL (i := 11) (by kernel_rfl) rfl (by rfl) (fun K hK => ?_)
        refine wp_storeM 79 (.tmp 13) (.tmp 56) rfl rfl wd.heap.size 0 rfl (bL Q) rfl 79 _ T146.out (by rw [bL_len, bL_len]; exact Nat.le_refl _) (by rw [bL_len]; exact Tryz.sizeSet) (fun v hv => bL_one hv) ?_
        intro x146 hd146 hb146
        rw [lay'_all (by rw [bL_len, bL_len])] at hd146
        have U146 := hid hd146
        have V146 := hid (hb146.cm S146.out (by omega))
        have r146 : Below w5.heap.size w5 x146 := t146.trans (hb146.below (by omega))
        clear hd146 hb146
        refine hK.out _ _ (fun _ => r146) (fun _ => ?_)
        clear hK K
        refine doneL (by kernel_rfl) ?_ _
        try simp only [Act.put, zA, zB, zC]
        go_wp2_with fail
        go_meet
        case rel => exact ⟨w135.heap.size, wd.heap.size, rfl, rfl, V146, U146, r146⟩
  case rest =>
    obtain ⟨b12, b13, rfl, rfl, S6, T6, t6⟩ := hcut
    have C6 := hid (C5.out.all t6)
    have R6 := hid (R5.out.all t6)
    have B6 : Hid (Below w.heap.size w wc) := hid (B5.out.trans (t6.mono B5.out.size))
    clear C5 R5 B5 t6 HGW KLs KFs KBx KBy HF
    rcases HZ.out with ⟨hb, hz1⟩ | ⟨hb, hz1, hz2⟩
    · subst hb
      rw [hz1] at KM1
      simp only [Option.getD_some, Option.isSome_some] at KM1
      simp only [if_true] at KA HRT
      rw [hQ] at KA
      have KN := hid (fun u W hu => implNegate_any u (lay 0 (.know 5 (k : Int) (.deny C))) W hu)
      rcases comb_cases HCW.out with ⟨k1, k2, k3, k4⟩ | ⟨k1, k2⟩
      · rw [k2, k3] at KN
        simp only [if_true] at KN
        rw [← HRT.out] at KN
        rw [k1] at KA
        unfold Ans at KA KN
        simp only [Option.isSome_some, Option.getD_some] at KA
        generalize lay 0 (.know 5 (k : Int) (.deny C)) = xs at *
        clear k1 k2 k3 k4 HRT HZ hz1 KM2 hP hQ HCW
        have tk7 : True := trivial
        have tk8 : True := trivial
        have tk9 : True := trivial
        have tk10 : True := trivial
        have tk11 : True := trivial
        have tk12 : True := trivial
        have tk13 : True := trivial
        have tk14 : True := trivial
        go_wp2_with
          (first
            | (have _t := tk7; clear _t tk7; refine wpList_loadM rfl 79 (.tmp 12) rfl b12 0 rfl 79 (bL P) (bL P) S6.out (fun j _ => by rw [Nat.zero_add]) _ Tryz.underlying79 rfl (by rw [bL_len]; exact Tryz.sizeSet) ?_)
            | (have _t := tk8; clear _t tk8; refine wpList_loadM rfl 79 (.tmp 13) rfl b13 0 rfl 79 (bL Q) (bL Q) T6.out (fun j _ => by rw [Nat.zero_add]) _ Tryz.underlying79 rfl (by rw [bL_len]; exact Tryz.sizeSet) ?_)
            | (have _t := tk9; clear _t tk9; refine wpList_loadM rfl 56 (.tmp 10) rfl w2.heap.size 0 rfl 56 V V R6.out (fun j _ => by rw [Nat.zero_add]) _ Tryz.underlying56 rfl (by rw [HRL.out]; exact Tryz.sizeRow) ?_)
            | (have _t := tk10; clear _t tk10; go_at_call 69; refine (KM1.out _).mono ?_; rintro e w7 ⟨rfl, hb7⟩; have S7 := hid (S6.out.all hb7); have T7 := hid (T6.out.all hb7); have C7 := hid (C6.out.all hb7); have R7 := hid (R6.out.all hb7); have B7 := hid (B6.out.trans (hb7.mono B6.out.size)); clear hb7 S6 T6 C6 R6 B6)
            | (have _t := tk11; clear _t tk11; refine wpList_loadM rfl 59 (.tmp 4) rfl w.heap.size 0 rfl 59 (ints G) (ints G) C7.out (fun j _ => by rw [Nat.zero_add]) _ Tryz.underlying59 rfl (by rw [HL.out]; exact Tryz.sizeGrid) ?_)
            | (have _t := tk12; clear _t tk12; refine wpList_loadM rfl 79 (.tmp 13) rfl b13 0 rfl 79 (bL Q) (bL Q) T7.out (fun j _ => by rw [Nat.zero_add]) _ Tryz.underlying79 rfl (by rw [bL_len]; exact Tryz.sizeSet) ?_)
            | (have _t := tk13; clear _t tk13; go_at_call 70; refine (KA.out _ B7.out).mono ?_; rintro e w8 ⟨v8, rfl, ho8, hb8⟩; have O8 := hid (own_mono ho8 B7.out.size); have B8 := hid (B7.out.trans (hb8.mono B7.out.size)); clear ho8 hb8)
            | (have _t := tk14; clear _t tk14; go_at_call 71; refine (KN.out _ _ (Ns.of_own O8.out)).mono ?_; rintro e w9 ⟨v9, rfl, ho9, hb9⟩; have O9 := hid (own_mono ho9 B8.out.size); have B9 := hid (B8.out.trans (hb9.mono B8.out.size)); clear ho9 hb9))
        go_returns
        exact ⟨_, rfl, O9.out, B9.out⟩
      · have HR2 : Hid (R = none) := hid (HRT.out.trans (comb_long (by simp only [Tm.size] at k2 ⊢; omega)))
        rw [k1] at KA
        unfold Ans at KA
        simp only [Option.isSome_none, Option.getD_none] at KA
        clear k1 k2 HRT HZ hz1 KM2 hP hQ HCW KN
        have tk15 : True := trivial
        have tk16 : True := trivial
        have tk17 : True := trivial
        have tk18 : True := trivial
        have tk19 : True := trivial
        have tk20 : True := trivial
        have tk21 : True := trivial
        go_wp2_with
          (first
            | (have _t := tk15; clear _t tk15; refine wpList_loadM rfl 79 (.tmp 12) rfl b12 0 rfl 79 (bL P) (bL P) S6.out (fun j _ => by rw [Nat.zero_add]) _ Tryz.underlying79 rfl (by rw [bL_len]; exact Tryz.sizeSet) ?_)
            | (have _t := tk16; clear _t tk16; refine wpList_loadM rfl 79 (.tmp 13) rfl b13 0 rfl 79 (bL Q) (bL Q) T6.out (fun j _ => by rw [Nat.zero_add]) _ Tryz.underlying79 rfl (by rw [bL_len]; exact Tryz.sizeSet) ?_)
            | (have _t := tk17; clear _t tk17; refine wpList_loadM rfl 56 (.tmp 10) rfl w2.heap.size 0 rfl 56 V V R6.out (fun j _ => by rw [Nat.zero_add]) _ Tryz.underlying56 rfl (by rw [HRL.out]; exact Tryz.sizeRow) ?_)
            | (have _t := tk18; clear _t tk18; go_at_call 69; refine (KM1.out _).mono ?_; rintro e w7 ⟨rfl, hb7⟩; have S7 := hid (S6.out.all hb7); have T7 := hid (T6.out.all hb7); have C7 := hid (C6.out.all hb7); have R7 := hid (R6.out.all hb7); have B7 := hid (B6.out.trans (hb7.mono B6.out.size)); clear hb7 S6 T6 C6 R6 B6)
            | (have _t := tk19; clear _t tk19; refine wpList_loadM rfl 59 (.tmp 4) rfl w.heap.size 0 rfl 59 (ints G) (ints G) C7.out (fun j _ => by rw [Nat.zero_add]) _ Tryz.underlying59 rfl (by rw [HL.out]; exact Tryz.sizeGrid) ?_)
            | (have _t := tk20; clear _t tk20; refine wpList_loadM rfl 79 (.tmp 13) rfl b13 0 rfl 79 (bL Q) (bL Q) T7.out (fun j _ => by rw [Nat.zero_add]) _ Tryz.underlying79 rfl (by rw [bL_len]; exact Tryz.sizeSet) ?_)
            | (have _t := tk21; clear _t tk21; go_at_call 70; refine (KA.out _ B7.out).mono ?_; rintro e w8 ⟨v8, rfl, ho8, hb8⟩; have O8 := hid (own_mono ho8 B7.out.size); have B8 := hid (B7.out.trans (hb8.mono B7.out.size)); clear ho8 hb8))
        go_returns
        rw [HR2.out]
        exact ⟨_, rfl, World.ownsRow_nil _ _ _ _, B8.out⟩
    · subst hb
      rw [hz1] at KM1
      rw [hz2] at KM2
      simp only [Option.getD_some, Option.isSome_some] at KM2
      simp only [Option.getD_none, Option.isSome_none] at KM1
      simp only [Bool.false_eq_true, if_false] at KA HRT
      rw [hP, ← HRT.out] at KA
      unfold Ans at KA
      clear HRT HZ hz1 hz2 hP hQ HCW
      have tk22 : True := trivial
      have tk23 : True := trivial
      have tk24 : True := trivial
      have tk25 : True := trivial
      have tk26 : True := trivial
      have tk27 : True := trivial
      have tk28 : True := trivial
      have tk29 : True := trivial
      have tk30 : True := trivial
      have tk31 : True := trivial
      have tk32 : True := trivial
      go_wp2_with
        (first
          | (have _t := tk22; clear _t tk22; refine wpList_loadM rfl 79 (.tmp 12) rfl b12 0 rfl 79 (bL P) (bL P) S6.out (fun j _ => by rw [Nat.zero_add]) _ Tryz.underlying79 rfl (by rw [bL_len]; exact Tryz.sizeSet) ?_)
          | (have _t := tk23; clear _t tk23; refine wpList_loadM rfl 79 (.tmp 13) rfl b13 0 rfl 79 (bL Q) (bL Q) T6.out (fun j _ => by rw [Nat.zero_add]) _ Tryz.underlying79 rfl (by rw [bL_len]; exact Tryz.sizeSet) ?_)
          | (have _t := tk24; clear _t tk24; refine wpList_loadM rfl 56 (.tmp 10) rfl w2.heap.size 0 rfl 56 V V R6.out (fun j _ => by rw [Nat.zero_add]) _ Tryz.underlying56 rfl (by rw [HRL.out]; exact Tryz.sizeRow) ?_)
          | (have _t := tk25; clear _t tk25; go_at_call 69; refine (KM1.out _).mono ?_; rintro e w7 ⟨rfl, hb7⟩; have S7 := hid (S6.out.all hb7); have T7 := hid (T6.out.all hb7); have C7 := hid (C6.out.all hb7); have R7 := hid (R6.out.all hb7); have B7 := hid (B6.out.trans (hb7.mono B6.out.size)); clear hb7 S6 T6 C6 R6 B6)
          | (have _t := tk26; clear _t tk26; refine wpList_loadM rfl 79 (.tmp 13) rfl b13 0 rfl 79 (bL Q) (bL Q) T7.out (fun j _ => by rw [Nat.zero_add]) _ Tryz.underlying79 rfl (by rw [bL_len]; exact Tryz.sizeSet) ?_)
          | (have _t := tk27; clear _t tk27; refine wpList_loadM rfl 79 (.tmp 12) rfl b12 0 rfl 79 (bL P) (bL P) S7.out (fun j _ => by rw [Nat.zero_add]) _ Tryz.underlying79 rfl (by rw [bL_len]; exact Tryz.sizeSet) ?_)
          | (have _t := tk28; clear _t tk28; refine wpList_loadM rfl 56 (.tmp 10) rfl w2.heap.size 0 rfl 56 V V R7.out (fun j _ => by rw [Nat.zero_add]) _ Tryz.underlying56 rfl (by rw [HRL.out]; exact Tryz.sizeRow) ?_)
          | (have _t := tk29; clear _t tk29; go_at_call 69; refine (KM2.out _).mono ?_; rintro e w77 ⟨rfl, hb77⟩; have S77 := hid (S7.out.all hb77); have T77 := hid (T7.out.all hb77); have C77 := hid (C7.out.all hb77); have R77 := hid (R7.out.all hb77); have B77 := hid (B7.out.trans (hb77.mono B7.out.size)); clear hb77 S7 T7 C7 R7 B7)
          | (have _t := tk30; clear _t tk30; refine wpList_loadM rfl 59 (.tmp 4) rfl w.heap.size 0 rfl 59 (ints G) (ints G) C77.out (fun j _ => by rw [Nat.zero_add]) _ Tryz.underlying59 rfl (by rw [HL.out]; exact Tryz.sizeGrid) ?_)
          | (have _t := tk31; clear _t tk31; refine wpList_loadM rfl 79 (.tmp 12) rfl b12 0 rfl 79 (bL P) (bL P) S77.out (fun j _ => by rw [Nat.zero_add]) _ Tryz.underlying79 rfl (by rw [bL_len]; exact Tryz.sizeSet) ?_)
          | (have _t := tk32; clear _t tk32; go_at_call 70; refine (KA.out _ B77.out).mono ?_; rintro e w8 ⟨v8, rfl, ho8, hb8⟩; have O8 := hid (own_mono ho8 B77.out.size); have B8 := hid (B77.out.trans (hb8.mono B77.out.size)); clear ho8 hb8))
      go_returns
      exact ⟨_, rfl, O8.out, B8.out⟩
theorem stab_16 {m : Md} (hn : m.facts.length ≤ 16) : stab m ≤ 16 := by
  unfold stab
  cases hf : (List.range m.facts.length).find? fun j => decide (clsAt m (j + 1) = clsAt m j) with
  | none => simp
  | some j => have := List.mem_range.1 (List.mem_of_find?_eq_some hf); simp; omega
theorem diff_any (m : Md) (hm : mdOk m = true) (sv : Value) (B0 : World) (hSt : StV B0 sv m) (hT : BTab B0) : ∀ (f x y : Nat) (w : World), x < m.facts.length → y < m.facts.length → sameAt m (stab m) x y = false →
    (sameAt m 0 x y = true → stepOf m x y + 1 < f) → 0 < f → Below B0.heap.size B0 w →
    Calls Tryz.prog 33 #[.agg (ints (gL m.facts.length m.blocks.length m.facts m.blocks m.actual)).toArray, sv, .int .i64 x, .int .i64 y] w (Ans w (combL (diffT m f x y)))
  | 0, _, _, _, _, _, _, _, h, _ => absurd h (by decide)
  | f + 1, x, y, w, hx, hy, hl, hs, _, hB => by
    obtain ⟨p1, p2, p3, p4, p5, p6, -⟩ := mdOk_parts hm
    have hsl := md_small hm
    unfold diffT
    cases hb : firstBit (m.facts.getD x 0) (m.facts.getD y 0) with
    | some k => exact diffFact_any m hm sv x y k w hx hy hb (hT.below hB (Nat.le_refl _))
    | none =>
      simp only
      have hfe := firstBit_none (p6 x hx) (p6 y hy) hb
      have h0 := (sameAt_0 hx hy).2 hfe
      obtain ⟨s1, s2, s3⟩ := stepOf_at hl h0
      have hfu := hs h0
      have hiff := step_iff hx hy hl h0
      have hcl' : ∀ u, u < m.facts.length → 0 ≤ (clsAt m (stepOf m x y)).getD u 0 := fun u hu => (clsAt_bd hu).1
      have htog : tog m (clsAt m (stepOf m x y)) x y = false := by
        cases h : tog m (clsAt m (stepOf m x y)) x y with
        | false => rfl
        | true =>
          have := (finer_same hx hy).2 h
          unfold sameAt at s3
          rw [show clsAt m (stepOf m x y + 1) = finer m (clsAt m (stepOf m x y)) from rfl, this] at s3
          simp at s3
      have hse : (clsAt m (stepOf m x y)).getD x 0 = (clsAt m (stepOf m x y)).getD y 0 := by unfold sameAt at s1; exact beq_iff_eq.1 s1
      obtain ⟨k, b, z, hp, hk, hA, hBf⟩ := pickA_some hcl' hse htog
      rw [hp]
      obtain ⟨e1, e2, e3⟩ := pick_first p2 hp
      have hrec : ∀ u v, u < m.facts.length → v < m.facts.length → (clsAt m (stepOf m x y)).getD u 0 ≠ (clsAt m (stepOf m x y)).getD v 0 → ∀ W, Below B0.heap.size B0 W →
          Calls Tryz.prog 33 #[.agg (ints (gL m.facts.length m.blocks.length m.facts m.blocks m.actual)).toArray, sv, .int .i64 u, .int .i64 v] W (Ans W (combL (diffT m f u v))) := by
        intro u v hu hv hne W hW
        have huv : sameAt m (stepOf m x y) u v = false := by
          cases h : sameAt m (stepOf m x y) u v with
          | false => rfl
          | true => unfold sameAt at h; exact absurd (beq_iff_eq.1 h) hne
        have hup : ∀ j, stepOf m x y ≤ j → sameAt m j u v = false := fun j hj => by
          cases h : sameAt m j u v with
          | false => rfl
          | true => have := sameAt_down hu hv hj h; rw [huv] at this; cases this
        refine diff_any m hm sv B0 hSt hT f u v W hu hv (hup _ (by omega)) (fun h0' => ?_) (by omega) hW
        obtain ⟨t1, t2, t3⟩ := stepOf_at (hup _ (by omega)) h0'
        rcases Nat.lt_or_ge (stepOf m u v) (stepOf m x y) with h | h
        · omega
        · rw [hup _ h] at t1; cases t1
      have hwf : ∀ u v, (diffT m f u v).wf := fun u v => diff_wf p4 f u v
      have hG : (gL m.facts.length m.blocks.length m.facts m.blocks m.actual).length = 67 := gL_len hsl
      have hconj : ∀ l : List Nat, (conjT (l.map (diffT m f z))).wf := fun l => conj_wf _ (fun t ht => by obtain ⟨u, _, rfl⟩ := List.mem_map.1 ht; exact hwf z u)
      have hk3 : (k : Int) < limN 5 := by show (k : Int) < 3; omega
      have hknow : ∀ l : List Nat, (Tm.know 5 (k : Int) (.deny (conjT (l.map (diffT m f z))))).wf := fun l => ⟨.inl rfl, Int.natCast_nonneg _, hk3, hconj l⟩
      have hall : ∀ (u : Nat), u < m.facts.length → z < m.facts.length → (∀ v ∈ blkD m k u, (clsAt m (stepOf m x y)).getD z 0 ≠ (clsAt m (stepOf m x y)).getD v 0) → ∀ W, Below w.heap.size w W →
          Calls Tryz.prog 70 #[.agg (ints (gL m.facts.length m.blocks.length m.facts m.blocks m.actual)).toArray, sv, .int .i64 k, .int .i64 z, .agg (bL (blkB m.blocks m.facts.length k u)).toArray] W (Ans W (combL (.know 5 (k : Int) (.deny (conjT ((blkD m k u).map (diffT m f z))))))) := by
        intro u hu hz hne W hW
        refine knownNot_any _ hG sv _ z k _ W (hconj _) (fun W' lo hi vv hW' hv => ?_)
        rw [lst_blk p2] at hv
        refine diffAll_any _ hG sv (diffT m f z) z B0 (blkD m k u) (fun h => by have := blkD_pos (m := m) (k := k) hu; rw [h] at this; cases this) (fun v _ => hwf z v) (fun v hv' W2 hW2 => hrec z v hz (mem_blkD.1 hv').1 (hne v hv') W2 hW2) lo hi vv W' ?_ hv
        exact (hB.trans (hW.mono hB.size)).trans (hW'.mono (Nat.le_trans hB.size hW.size))
      cases b with
      | true =>
        obtain ⟨q1, q2⟩ := hA rfl
        exact diffStep_any m hm sv x y k (stepOf m x y) z true _ w hx hy hfe (hSt.below hB) (by omega) (stab_16 p2) hiff hk e1 e2 e3 (hknow _) (hall y hy (mem_blkD.1 q1).1 q2)
      | false =>
        obtain ⟨q1, q2⟩ := hBf rfl
        exact diffStep_any m hm sv x y k (stepOf m x y) z false _ w hx hy hfe (hSt.below hB) (by omega) (stab_16 p2) hiff hk e1 e2 e3 (hknow _) (hall x hx (mem_blkD.1 q1).1 q2)
theorem implDiffOf_any (lo hi : Nat) (v : Value) (m : Md) (a b : Int) (w : World) (hr : Mv lo hi w v m) (hhi : hi ≤ w.heap.size) (hT : BTab w) :
    Calls Tryz.prog 8 #[v, .int .i64 a, .int .i64 b] w (Ans w (diffR m a b)) := by
  have KG := hid (fun W (h : Below w.heap.size w W) => gridOf_any lo hi v m W (hr.keeps (Keeps.of_all h)) (Nat.le_trans hhi h.size))
  obtain ⟨R, hR⟩ : ∃ R, R = diffR m a b := ⟨_, rfl⟩
  rw [← hR]
  have HR := hid hR
  clear hR
  obtain ⟨fv, bv, rfl, hf, hb⟩ := hr
  clear hf hb hhi
  cases hm : mdOk m with
  | false =>
    have HN : Hid (R = none) := hid (HR.out.trans (by unfold diffR; rw [hm]; rfl))
    simp only [hm, Bool.false_eq_true, if_false] at KG
    unfold GdAns at KG
    simp only [Option.getD_none, Option.isSome_none] at KG
    have HLG : Hid ((ints (gL 0 0 [] [] 0)).length = 67) := hid rfl
    have HLO := hid (fun v (hv : v ∈ ints (gL 0 0 [] [] 0)) => ints_one hv)
    obtain ⟨G, hG⟩ : ∃ G, G = gL 0 0 [] [] 0 := ⟨_, rfl⟩
    rw [← hG] at KG HLG HLO
    clear hG HR hm hT
    go_enter Tryz.func8, Tryz.ntmps8
    go_wp2_with fail
    refine (KG.out _ (by go_grown)).mono ?_
    rintro e w1 ⟨rfl, hb1⟩
    have B1 : Hid (Below w.heap.size w w1) := hid (Below.trans (by go_grown) (hb1.mono (by simp)))
    clear hb1
    have tk1 : True := trivial
    have tk2 : True := trivial
    go_wp2_with
      (first
        | (have _t := tk1; clear _t tk1; refine wpList_allocM rfl 59 rfl (ints (gL 0 0 [] [] 0)) Tryz.allocGrid ?_; intro w2 hc2 hb2 hs2; have C2 := hid hc2; have B2 : Hid (Below w.heap.size w w2) := hid (B1.out.trans (hb2.mono B1.out.size)); clear hc2 hb2 hs2)
        | (have _t := tk2; clear _t tk2; refine wpList_storeM rfl 59 (.tmp 8) (.tmp 15) rfl w1.heap.size 0 rfl (ints G) rfl 59 (ints (gL 0 0 [] [] 0)) C2.out (by rw [HLG.out]; exact Nat.le_refl _) (by rw [HLG.out]; exact Tryz.sizeGrid) HLO.out ?_; intro w3 hc3 ha3; rw [lay'_all (by rw [HLG.out]; rfl)] at hc3; have C3 := hid hc3; have B3 : Hid (Below w.heap.size w w3) := hid (B2.out.trans (ha3.below B1.out.size)); clear hc3 ha3))
    go_returns
    rw [HN.out]
    exact ⟨_, rfl, World.ownsRow_nil _ _ _ _, B3.out⟩
  | true =>
    obtain ⟨p1, p2, p3, p4, p5, p6, -⟩ := mdOk_parts hm
    have hs := md_small hm
    simp only [hm, if_true] at KG
    unfold GdAns at KG
    simp only [Option.getD_some, Option.isSome_some] at KG
    unfold gOf at KG
    have HLG : Hid ((ints (gL m.facts.length m.blocks.length m.facts m.blocks m.actual)).length = 67) := hid (by rw [ints_len]; exact gL_len hs)
    have HLO := hid (fun v (hv : v ∈ ints (gL m.facts.length m.blocks.length m.facts m.blocks m.actual)) => ints_one hv)
    have HC0 : Hid (∀ W b T, Cm W b T (ints (gL m.facts.length m.blocks.length m.facts m.blocks m.actual)) → W.cell? ⟨b, 0, none⟩ = some (.int .i64 m.facts.length)) := hid (fun W b T h => h.g0)
    have KWa := hid (fun W => hasWorld_any m.facts.length m.blocks.length m.actual m.facts m.blocks a W)
    have KWb := hid (fun W => hasWorld_any m.facts.length m.blocks.length m.actual m.facts m.blocks b W)
    have KS := hid (fun W => steps_any m hm W)
    have KD := hid (fun sv W (h : Below w.heap.size w W) (h1 : StV W sv m) x y hx hy hl h0 => diff_any m hm sv W h1 (hT.below h (Nat.le_refl _)) (stab m + 2) x y W hx hy hl h0 (by omega) (Below.refl _ _))
    have HWF := hid (fun x y => combL_wf (diff_wf (m := m) p4 (stab m + 2) x y))
    have HST := hid (stab_16 p2)
    generalize (gL m.facts.length m.blocks.length m.facts m.blocks m.actual) = G at *
    have HMK := hid hm
    clear hs hm p5 p6 hT
    by_cases hn8 : m.facts.length ≤ 8
    · have hn8' : decide ((8 : Int) < (m.facts.length : Int)) = false := decide_eq_false (by omega)
      cases hia : inB a m.facts.length with
      | false =>
        have HN : Hid (R = none) := hid (HR.out.trans (by unfold diffR; rw [hia]; simp))
        rw [hia] at KWa
        clear HR KS KD HWF KWb hia
        go_enter Tryz.func8, Tryz.ntmps8
        go_wp2_with fail
        refine (KG.out _ (by go_grown)).mono ?_
        rintro e w1 ⟨rfl, hb1⟩
        have B1 : Hid (Below w.heap.size w w1) := hid (Below.trans (by go_grown) (hb1.mono (by simp)))
        clear hb1
        have tk3 : True := trivial
        have tk4 : True := trivial
        have tk5 : True := trivial
        have tk6 : True := trivial
        go_wp2_with
          (first
            | (have _t := tk3; clear _t tk3; refine wpList_allocM rfl 59 rfl (ints (gL 0 0 [] [] 0)) Tryz.allocGrid ?_; intro w2 hc2 hb2 hs2; have C2 := hid hc2; have B2 : Hid (Below w.heap.size w w2) := hid (B1.out.trans (hb2.mono B1.out.size)); clear hc2 hb2 hs2)
            | (have _t := tk4; clear _t tk4; refine wpList_storeM rfl 59 (.tmp 8) (.tmp 15) rfl w1.heap.size 0 rfl (ints G) rfl 59 (ints (gL 0 0 [] [] 0)) C2.out (by rw [HLG.out]; exact Nat.le_refl _) (by rw [HLG.out]; exact Tryz.sizeGrid) HLO.out ?_; intro w3 hc3 ha3; rw [lay'_all (by rw [HLG.out]; rfl)] at hc3; have C3 := hid hc3; have B3 : Hid (Below w.heap.size w w3) := hid (B2.out.trans (ha3.below B1.out.size)); have g0 := HC0.out _ _ _ C3.out; clear hc3 ha3)
            | (have _t := tk5; clear _t tk5; refine wpList_loadMG rfl (by rfl) 59 _ rfl w1.heap.size 0 rfl 59 (ints G) (ints G) C3.out (fun j _ => by rw [Nat.zero_add]) _ Tryz.underlying59 rfl (by rw [HLG.out]; exact Tryz.sizeGrid) ?_)
            | (have _t := tk6; clear _t tk6; go_at_call 31; (with_reducible refine (KWa.out _).mono ?_); rintro e w4 ⟨rfl, hb4⟩; have C4 := hid (C3.out.all hb4); have B4 : Hid (Below w.heap.size w w4) := hid (B3.out.trans (hb4.mono B3.out.size)); clear hb4))
        go_returns
        rw [HN.out]
        exact ⟨_, rfl, World.ownsRow_nil _ _ _ _, B4.out⟩
      | true =>
        rw [hia] at KWa
        cases hib : inB b m.facts.length with
        | false =>
          have HN : Hid (R = none) := hid (HR.out.trans (by unfold diffR; rw [hib]; simp))
          rw [hib] at KWb
          clear HR KS KD HWF hia hib
          go_enter Tryz.func8, Tryz.ntmps8
          go_wp2_with fail
          refine (KG.out _ (by go_grown)).mono ?_
          rintro e w1 ⟨rfl, hb1⟩
          have B1 : Hid (Below w.heap.size w w1) := hid (Below.trans (by go_grown) (hb1.mono (by simp)))
          clear hb1
          have tk7 : True := trivial
          have tk8 : True := trivial
          have tk9 : True := trivial
          have tk10 : True := trivial
          have tk11 : True := trivial
          have tk12 : True := trivial
          go_wp2_with
            (first
              | (have _t := tk7; clear _t tk7; refine wpList_allocM rfl 59 rfl (ints (gL 0 0 [] [] 0)) Tryz.allocGrid ?_; intro w2 hc2 hb2 hs2; have C2 := hid hc2; have B2 : Hid (Below w.heap.size w w2) := hid (B1.out.trans (hb2.mono B1.out.size)); clear hc2 hb2 hs2)
              | (have _t := tk8; clear _t tk8; refine wpList_storeM rfl 59 (.tmp 8) (.tmp 15) rfl w1.heap.size 0 rfl (ints G) rfl 59 (ints (gL 0 0 [] [] 0)) C2.out (by rw [HLG.out]; exact Nat.le_refl _) (by rw [HLG.out]; exact Tryz.sizeGrid) HLO.out ?_; intro w3 hc3 ha3; rw [lay'_all (by rw [HLG.out]; rfl)] at hc3; have C3 := hid hc3; have B3 : Hid (Below w.heap.size w w3) := hid (B2.out.trans (ha3.below B1.out.size)); have g0 := HC0.out _ _ _ C3.out; clear hc3 ha3)
              | (have _t := tk9; clear _t tk9; refine wpList_loadMG rfl (by rfl) 59 _ rfl w1.heap.size 0 rfl 59 (ints G) (ints G) C3.out (fun j _ => by rw [Nat.zero_add]) _ Tryz.underlying59 rfl (by rw [HLG.out]; exact Tryz.sizeGrid) ?_)
              | (have _t := tk10; clear _t tk10; go_at_call 31; (with_reducible refine (KWa.out _).mono ?_); rintro e w4 ⟨rfl, hb4⟩; have C4 := hid (C3.out.all hb4); have B4 : Hid (Below w.heap.size w w4) := hid (B3.out.trans (hb4.mono B3.out.size)); clear hb4)
              | (have _t := tk11; clear _t tk11; refine wpList_loadMG rfl (by rfl) 59 _ rfl w1.heap.size 0 rfl 59 (ints G) (ints G) C4.out (fun j _ => by rw [Nat.zero_add]) _ Tryz.underlying59 rfl (by rw [HLG.out]; exact Tryz.sizeGrid) ?_)
              | (have _t := tk12; clear _t tk12; go_at_call 31; (with_reducible refine (KWb.out _).mono ?_); rintro e w5 ⟨rfl, hb5⟩; have C5 := hid (C4.out.all hb5); have B5 : Hid (Below w.heap.size w w5) := hid (B4.out.trans (hb5.mono B4.out.size)); clear hb5))
          go_returns
          rw [HN.out]
          exact ⟨_, rfl, World.ownsRow_nil _ _ _ _, B5.out⟩
        | true =>
          rw [hib] at KWb
          have hax : 0 ≤ a ∧ a < m.facts.length := by unfold inB at hia; simpa using hia
          have hby : 0 ≤ b ∧ b < m.facts.length := by unfold inB at hib; simpa using hib
          have HR : Hid (R = if (lastC m).getD a.toNat 0 = (lastC m).getD b.toNat 0 then none else combL (diffT m (stab m + 2) a.toNat b.toNat)) := hid (HR.out.trans (by
            unfold diffR
            rw [HMK.out, hia, hib, decide_eq_true hn8]
            by_cases h : (lastC m).getD a.toNat 0 = (lastC m).getD b.toNat 0
            · rw [beq_iff_eq.2 h, if_pos h]; rfl
            · rw [beq_eq_false_iff_ne.2 h, if_neg h, HWF.out]; rfl))
          clear hia hib HWF HMK
          obtain ⟨x, hx⟩ := Int.eq_ofNat_of_zero_le hax.1
          obtain ⟨y, hy⟩ := Int.eq_ofNat_of_zero_le hby.1
          subst hx
          subst hy
          rw [Int.toNat_natCast, Int.toNat_natCast] at HR
          have hxn : x < m.facts.length := by omega
          have hyn : y < m.facts.length := by omega
          have hx0 : (0 : Int) ≤ (x : Int) := Int.natCast_nonneg _
          have hy0 : (0 : Int) ≤ (y : Int) := Int.natCast_nonneg _
          have hx16 : (x : Int) < 16 := by omega
          have hy16 : (y : Int) < 16 := by omega
          have HLA : Hid (∀ i, (lastC m).getD i 0 = cF m (stab m) i) := hid (fun i => rfl)
          clear hax hby
          have hs0 : (0 : Int) ≤ (stab m : Int) := Int.natCast_nonneg _
          have HRG := hid (fun i (h : i < 16) => rowF_get (cF m (stab m)) h)
          by_cases he : cF m (stab m) x = cF m (stab m) y
          · have HN : Hid (R = none) := hid (HR.out.trans (if_pos (by rw [HLA.out, HLA.out]; exact he)))
            clear HR KD HLA
            go_enter Tryz.func8, Tryz.ntmps8
            go_wp2_with fail
            refine (KG.out _ (by go_grown)).mono ?_
            rintro e w1 ⟨rfl, hb1⟩
            have B1 : Hid (Below w.heap.size w w1) := hid (Below.trans (by go_grown) (hb1.mono (by simp)))
            clear hb1
            have tk13 : True := trivial
            have tk14 : True := trivial
            have tk15 : True := trivial
            have tk16 : True := trivial
            have tk17 : True := trivial
            have tk18 : True := trivial
            have tk19 : True := trivial
            have tk20 : True := trivial
            have tk21 : True := trivial
            have tk22 : True := trivial
            have tk23 : True := trivial
            go_wp2_with
              (first
                | (have _t := tk13; clear _t tk13; refine wpList_allocM rfl 59 rfl (ints (gL 0 0 [] [] 0)) Tryz.allocGrid ?_; intro w2 hc2 hb2 hs2; have C2 := hid hc2; have B2 : Hid (Below w.heap.size w w2) := hid (B1.out.trans (hb2.mono B1.out.size)); clear hc2 hb2 hs2)
                | (have _t := tk14; clear _t tk14; refine wpList_storeM rfl 59 (.tmp 8) (.tmp 15) rfl w1.heap.size 0 rfl (ints G) rfl 59 (ints (gL 0 0 [] [] 0)) C2.out (by rw [HLG.out]; exact Nat.le_refl _) (by rw [HLG.out]; exact Tryz.sizeGrid) HLO.out ?_; intro w3 hc3 ha3; rw [lay'_all (by rw [HLG.out]; rfl)] at hc3; have C3 := hid hc3; have B3 : Hid (Below w.heap.size w w3) := hid (B2.out.trans (ha3.below B1.out.size)); have g0 := HC0.out _ _ _ C3.out; clear hc3 ha3)
                | (have _t := tk15; clear _t tk15; refine wpList_loadMG rfl (by rfl) 59 _ rfl w1.heap.size 0 rfl 59 (ints G) (ints G) C3.out (fun j _ => by rw [Nat.zero_add]) _ Tryz.underlying59 rfl (by rw [HLG.out]; exact Tryz.sizeGrid) ?_)
                | (have _t := tk16; clear _t tk16; go_at_call 31; (with_reducible refine (KWa.out _).mono ?_); rintro e w4 ⟨rfl, hb4⟩; have C4 := hid (C3.out.all hb4); have B4 : Hid (Below w.heap.size w w4) := hid (B3.out.trans (hb4.mono B3.out.size)); clear hb4)
                | (have _t := tk17; clear _t tk17; refine wpList_loadMG rfl (by rfl) 59 _ rfl w1.heap.size 0 rfl 59 (ints G) (ints G) C4.out (fun j _ => by rw [Nat.zero_add]) _ Tryz.underlying59 rfl (by rw [HLG.out]; exact Tryz.sizeGrid) ?_)
                | (have _t := tk18; clear _t tk18; go_at_call 31; (with_reducible refine (KWb.out _).mono ?_); rintro e w5 ⟨rfl, hb5⟩; have C5 := hid (C4.out.all hb5); have B5 : Hid (Below w.heap.size w w5) := hid (B4.out.trans (hb5.mono B4.out.size)); clear hb5)
                | (have _t := tk19; clear _t tk19; refine wpList_loadM rfl 59 (.tmp 8) rfl w1.heap.size 0 rfl 59 (ints G) (ints G) C5.out (fun j _ => by rw [Nat.zero_add]) _ Tryz.underlying59 rfl (by rw [HLG.out]; exact Tryz.sizeGrid) ?_)
                | (have _t := tk20; clear _t tk20; go_at_call 32; (with_reducible refine (KS.out _).mono ?_); rintro e w6 ⟨v6, rfl, ho6, hb6⟩; have ST6 := hid (StV.of_own ho6); obtain ⟨g, cap, cs, rfl, hc1, hc2, hc3, hc4, hc5⟩ := ST6.out; have C6 := hid (C5.out.all hb6); have B6 : Hid (Below w.heap.size w w6) := hid (B5.out.trans (hb6.mono B5.out.size)); have D6 := hid hc4; have E6 := hid (fun j (hj : j < (ints (rowF (cF m (stab m)))).length) => hc5 (stab m) (Nat.le_refl _) j (by rwa [rowF_ints_len] at hj)); unfold maxLen at hc2; clear ho6 hb6 hc4 hc5)
                | (have _t := tk21; clear _t tk21; refine wpList_loadM rfl 56 (.tmp 42) rfl g (stab m * 16) rfl 56 cs (ints (rowF (cF m (stab m)))) D6.out E6.out _ Tryz.underlying56 rfl (by rw [rowF_ints_len]; exact Tryz.sizeRow) ?_)
                | (have _t := tk22; clear _t tk22; refine wpList_allocM (o := ⟨some 11, _, _, _, _, _⟩) rfl 56 rfl (ints (rowF fun _ => 0)) Tryz.allocRowF ?_; intro w7 hc7 hb7 hs7; have N7 := hid hc7; have T7 := hid hb7; clear hc7 hb7 hs7)
                | (have _t := tk23; clear _t tk23; refine wpList_storeM rfl 56 (.tmp 11) (.tmp 43) rfl w6.heap.size 0 rfl (ints (rowF (cF m (stab m)))) rfl 56 _ N7.out (by rw [rowF_ints_len, rowF_ints_len]; exact Nat.le_refl _) (by rw [rowF_ints_len]; exact Tryz.sizeRow) (fun v hv => ints_one hv) ?_; intro w8 hc8 ha8; rw [lay'_all (by rw [rowF_ints_len, rowF_ints_len])] at hc8; have N8 := hid hc8; have T8 : Hid (Below w6.heap.size w6 w8) := hid (T7.out.trans (ha8.below (Nat.le_refl _))); have ST8 := hid (ST6.out.below T8.out); have C8 := hid (C6.out.all T8.out); have B8 : Hid (Below w.heap.size w w8) := hid (B6.out.trans (T8.out.mono B6.out.size)); clear hc8 ha8))
            have c1 : w8.cell? ⟨w6.heap.size, x, none⟩ = some (.int .i64 (cF m (stab m) x)) := by rw [N8.out.cell, ints_at (by rw [rowF_len]; omega), HRG.out x (by omega)]
            have c2 : w8.cell? ⟨w6.heap.size, y, none⟩ = some (.int .i64 (cF m (stab m) y)) := by rw [N8.out.cell, ints_at (by rw [rowF_len]; omega), HRG.out y (by omega)]
            rw [he] at c1
            generalize cF m (stab m) y = zz at c1 c2
            go_quiet (fail)
            clear c1 c2
            go_wp2
            go_returns
            rw [HN.out]
            exact ⟨_, rfl, World.ownsRow_nil _ _ _ _, below_drewN' B8.out _⟩
          · have HR2 : Hid (R = combL (diffT m (stab m + 2) x y)) := hid (HR.out.trans (if_neg (by rw [HLA.out, HLA.out]; exact he)))
            have hl : sameAt m (stab m) x y = false := by unfold sameAt; exact beq_eq_false_iff_ne.2 he
            have KD := hid (fun sv W h h1 => KD.out sv W h h1 x y hxn hyn hl (fun h0 => by have := (stepOf_at hl h0).2.1; omega))
            rw [← HR2.out] at KD
            unfold Ans at KD
            clear HR HR2 HLA hl
            go_enter Tryz.func8, Tryz.ntmps8
            go_wp2_with fail
            refine (KG.out _ (by go_grown)).mono ?_
            rintro e w1 ⟨rfl, hb1⟩
            have B1 : Hid (Below w.heap.size w w1) := hid (Below.trans (by go_grown) (hb1.mono (by simp)))
            clear hb1
            have tk24 : True := trivial
            have tk25 : True := trivial
            have tk26 : True := trivial
            have tk27 : True := trivial
            have tk28 : True := trivial
            have tk29 : True := trivial
            have tk30 : True := trivial
            have tk31 : True := trivial
            have tk32 : True := trivial
            have tk33 : True := trivial
            have tk34 : True := trivial
            go_wp2_with
              (first
                | (have _t := tk24; clear _t tk24; refine wpList_allocM rfl 59 rfl (ints (gL 0 0 [] [] 0)) Tryz.allocGrid ?_; intro w2 hc2 hb2 hs2; have C2 := hid hc2; have B2 : Hid (Below w.heap.size w w2) := hid (B1.out.trans (hb2.mono B1.out.size)); clear hc2 hb2 hs2)
                | (have _t := tk25; clear _t tk25; refine wpList_storeM rfl 59 (.tmp 8) (.tmp 15) rfl w1.heap.size 0 rfl (ints G) rfl 59 (ints (gL 0 0 [] [] 0)) C2.out (by rw [HLG.out]; exact Nat.le_refl _) (by rw [HLG.out]; exact Tryz.sizeGrid) HLO.out ?_; intro w3 hc3 ha3; rw [lay'_all (by rw [HLG.out]; rfl)] at hc3; have C3 := hid hc3; have B3 : Hid (Below w.heap.size w w3) := hid (B2.out.trans (ha3.below B1.out.size)); have g0 := HC0.out _ _ _ C3.out; clear hc3 ha3)
                | (have _t := tk26; clear _t tk26; refine wpList_loadMG rfl (by rfl) 59 _ rfl w1.heap.size 0 rfl 59 (ints G) (ints G) C3.out (fun j _ => by rw [Nat.zero_add]) _ Tryz.underlying59 rfl (by rw [HLG.out]; exact Tryz.sizeGrid) ?_)
                | (have _t := tk27; clear _t tk27; go_at_call 31; (with_reducible refine (KWa.out _).mono ?_); rintro e w4 ⟨rfl, hb4⟩; have C4 := hid (C3.out.all hb4); have B4 : Hid (Below w.heap.size w w4) := hid (B3.out.trans (hb4.mono B3.out.size)); clear hb4)
                | (have _t := tk28; clear _t tk28; refine wpList_loadMG rfl (by rfl) 59 _ rfl w1.heap.size 0 rfl 59 (ints G) (ints G) C4.out (fun j _ => by rw [Nat.zero_add]) _ Tryz.underlying59 rfl (by rw [HLG.out]; exact Tryz.sizeGrid) ?_)
                | (have _t := tk29; clear _t tk29; go_at_call 31; (with_reducible refine (KWb.out _).mono ?_); rintro e w5 ⟨rfl, hb5⟩; have C5 := hid (C4.out.all hb5); have B5 : Hid (Below w.heap.size w w5) := hid (B4.out.trans (hb5.mono B4.out.size)); clear hb5)
                | (have _t := tk30; clear _t tk30; refine wpList_loadM rfl 59 (.tmp 8) rfl w1.heap.size 0 rfl 59 (ints G) (ints G) C5.out (fun j _ => by rw [Nat.zero_add]) _ Tryz.underlying59 rfl (by rw [HLG.out]; exact Tryz.sizeGrid) ?_)
                | (have _t := tk31; clear _t tk31; go_at_call 32; (with_reducible refine (KS.out _).mono ?_); rintro e w6 ⟨v6, rfl, ho6, hb6⟩; have ST6 := hid (StV.of_own ho6); obtain ⟨g, cap, cs, rfl, hc1, hc2, hc3, hc4, hc5⟩ := ST6.out; have C6 := hid (C5.out.all hb6); have B6 : Hid (Below w.heap.size w w6) := hid (B5.out.trans (hb6.mono B5.out.size)); have D6 := hid hc4; have E6 := hid (fun j (hj : j < (ints (rowF (cF m (stab m)))).length) => hc5 (stab m) (Nat.le_refl _) j (by rwa [rowF_ints_len] at hj)); unfold maxLen at hc2; clear ho6 hb6 hc4 hc5)
                | (have _t := tk32; clear _t tk32; refine wpList_loadM rfl 56 (.tmp 42) rfl g (stab m * 16) rfl 56 cs (ints (rowF (cF m (stab m)))) D6.out E6.out _ Tryz.underlying56 rfl (by rw [rowF_ints_len]; exact Tryz.sizeRow) ?_)
                | (have _t := tk33; clear _t tk33; refine wpList_allocM (o := ⟨some 11, _, _, _, _, _⟩) rfl 56 rfl (ints (rowF fun _ => 0)) Tryz.allocRowF ?_; intro w7 hc7 hb7 hs7; have N7 := hid hc7; have T7 := hid hb7; clear hc7 hb7 hs7)
                | (have _t := tk34; clear _t tk34; refine wpList_storeM rfl 56 (.tmp 11) (.tmp 43) rfl w6.heap.size 0 rfl (ints (rowF (cF m (stab m)))) rfl 56 _ N7.out (by rw [rowF_ints_len, rowF_ints_len]; exact Nat.le_refl _) (by rw [rowF_ints_len]; exact Tryz.sizeRow) (fun v hv => ints_one hv) ?_; intro w8 hc8 ha8; rw [lay'_all (by rw [rowF_ints_len, rowF_ints_len])] at hc8; have N8 := hid hc8; have T8 : Hid (Below w6.heap.size w6 w8) := hid (T7.out.trans (ha8.below (Nat.le_refl _))); have ST8 := hid (ST6.out.below T8.out); have C8 := hid (C6.out.all T8.out); have B8 : Hid (Below w.heap.size w w8) := hid (B6.out.trans (T8.out.mono B6.out.size)); clear hc8 ha8))
            have c1 : w8.cell? ⟨w6.heap.size, x, none⟩ = some (.int .i64 (cF m (stab m) x)) := by rw [N8.out.cell, ints_at (by rw [rowF_len]; omega), HRG.out x (by omega)]
            have c2 : w8.cell? ⟨w6.heap.size, y, none⟩ = some (.int .i64 (cF m (stab m) y)) := by rw [N8.out.cell, ints_at (by rw [rowF_len]; omega), HRG.out y (by omega)]
            generalize cF m (stab m) x = z1 at c1 he
            generalize cF m (stab m) y = z2 at c2 he
            have e1 : (z1 == z2) = false := by simpa using he
            clear he
            go_quiet (fail)
            clear c1 c2
            have tk35 : True := trivial
            have tk36 : True := trivial
            go_wp2_with
              (first
                | (have _t := tk35; clear _t tk35; refine wpList_loadM rfl 59 (.tmp 8) rfl w1.heap.size 0 rfl 59 (ints G) (ints G) (C8.out.drewN _) (fun j _ => by rw [Nat.zero_add]) _ Tryz.underlying59 rfl (by rw [HLG.out]; exact Tryz.sizeGrid) ?_)
                | (have _t := tk36; clear _t tk36; go_at_call 33; refine (KD.out _ _ (below_drewN' B8.out _) (ST8.out.below (below_drewN' (Below.refl _ _) _))).mono ?_; rintro e w9 ⟨v9, rfl, ho9, hb9⟩; have O9 := hid (own_mono ho9 (below_drewN' B8.out _).size); have B9 := hid ((below_drewN' B8.out _).trans (hb9.mono (below_drewN' B8.out _).size)); clear ho9 hb9))
            go_returns
            exact ⟨_, rfl, O9.out, B9.out⟩
    · have hn8' : (8 : Int) < (m.facts.length : Int) := by omega
      have HN : Hid (R = none) := hid (HR.out.trans (by unfold diffR; rw [decide_eq_false hn8]; simp))
      clear HR KS KD HWF KWa KWb
      go_enter Tryz.func8, Tryz.ntmps8
      go_wp2_with fail
      refine (KG.out _ (by go_grown)).mono ?_
      rintro e w1 ⟨rfl, hb1⟩
      have B1 : Hid (Below w.heap.size w w1) := hid (Below.trans (by go_grown) (hb1.mono (by simp)))
      clear hb1
      have tk37 : True := trivial
      have tk38 : True := trivial
      go_wp2_with
        (first
          | (have _t := tk37; clear _t tk37; refine wpList_allocM rfl 59 rfl (ints (gL 0 0 [] [] 0)) Tryz.allocGrid ?_; intro w2 hc2 hb2 hs2; have C2 := hid hc2; have B2 : Hid (Below w.heap.size w w2) := hid (B1.out.trans (hb2.mono B1.out.size)); clear hc2 hb2 hs2)
          | (have _t := tk38; clear _t tk38; refine wpList_storeM rfl 59 (.tmp 8) (.tmp 15) rfl w1.heap.size 0 rfl (ints G) rfl 59 (ints (gL 0 0 [] [] 0)) C2.out (by rw [HLG.out]; exact Nat.le_refl _) (by rw [HLG.out]; exact Tryz.sizeGrid) HLO.out ?_; intro w3 hc3 ha3; rw [lay'_all (by rw [HLG.out]; rfl)] at hc3; have C3 := hid hc3; have B3 : Hid (Below w.heap.size w w3) := hid (B2.out.trans (ha3.below B1.out.size)); have g0 := HC0.out _ _ _ C3.out; clear hc3 ha3))
      go_returns
      rw [HN.out]
      exact ⟨_, rfl, World.ownsRow_nil _ _ _ _, B3.out⟩
end Go.Proofs.YtnpfnfenkklocaaGreatDoor
