/-
  impl.factDifference: the formula of the first fact in which two worlds differ. Condition: they differ; the library's table is laid.
-/
import Derived.Test.YtnpfnfenkklocaaGreatDoorTzb
import Derived.Test.YtnpfnfenkklocaaGreatDoorZCmb
import Derived.Test.YtnpfnfenkklocaaGreatDoorZSet
import Derived.Test.YtnpfnfenkklocaaGreatDoorDif
namespace Go.Proofs.YtnpfnfenkklocaaGreatDoor
open Go.RowKit Go.WideShapes
open Go Go.Deep
set_option linter.unusedSimpArgs false

section
variable {P : Program}
theorem wpList_binR {ops : Array Oper} {rest : List Oper} {o : Oper} {a : Act} {w : World} {Q : Exit → Act → World → Prop} (hgd : o.guard = none) (bop : BinOp) (T R : TypeId) (x y : Operand) (u v r : Value) (ho : o.op = .binOp bop T x y R) (hx : a.eval x = u) (hy : a.eval y = v)
    (hr : (do eqGuard bop T x y u v; binOp bop T u v : Sem Value).run P w = .ok r w) (h : wpList P ops Q rest (a.put o.dst r) w) : wpList P ops Q (o :: rest) a w :=
  wpList_op hgd r (by unfold execOp; simp only [ho, hx, hy]; rw [Sem.run_bind, hr]; rfl) h
end
theorem xor_nib : ∀ a : Fin 16, ∀ b : Fin 16, bits .xor .i64 ((a.val : Nat) : Int) ((b.val : Nat) : Int) = (((a.val ^^^ b.val : Nat)) : Int) := by decide +kernel
theorem ctz_nib : ∀ a : Fin 16, ∀ b : Fin 16, a ≠ b → (a.val ^^^ b.val ≠ 0 ∧ a.val ^^^ b.val < 16 ∧ Lib.ctz 64 (a.val ^^^ b.val) < 4 ∧ firstBit ((a.val : Nat) : Int) ((b.val : Nat) : Int) = some (Lib.ctz 64 (a.val ^^^ b.val))) := by decide +kernel
theorem leaf_lay {k : Nat} : lay 0 (.leaf 1 (k : Int)) = [⟨1, k, 0, 0⟩] := rfl
theorem leaf_ok {k : Nat} (hk : k < 4) : formOk [⟨1, (k : Int), 0, 0⟩] = true ∧ termOfL [⟨1, (k : Int), 0, 0⟩] = .leaf 1 (k : Int) := by
  rcases (show k = 0 ∨ k = 1 ∨ k = 2 ∨ k = 3 by omega) with rfl | rfl | rfl | rfl <;> exact ⟨by decide +kernel, by rfl⟩

set_option maxRecDepth 100000 in
set_option maxHeartbeats 8000000 in
theorem factDiff_any (a b k : Nat) (ha : a < 16) (hb : b < 16) (hab : a ≠ b) (hk : firstBit (a : Int) (b : Int) = some k) (w : World) (hT : BTab w) :
    Calls Tryz.prog 65 #[.int .i64 a, .int .i64 b] w (Ans w (combL (if bitI (a : Int) k == 1 then .leaf 1 (k : Int) else .deny (.leaf 1 (k : Int))))) := by
  have hx := xor_nib ⟨a, ha⟩ ⟨b, hb⟩
  obtain ⟨x0, x16, k4, hf⟩ := ctz_nib ⟨a, ha⟩ ⟨b, hb⟩ (by intro e; exact hab (Fin.mk.inj e))
  simp only at hx x0 x16 k4 hf
  rw [hk] at hf
  have hk2 := Option.some.inj hf
  rw [← hk2] at k4
  have KT := Lib.hid (fun W (h : Below w.heap.size w W) => tz_full (a ^^^ b) (by omega) x0 W ((hT.below h (Nat.le_refl _)).at))
  rw [← hk2] at KT
  have HXR := Lib.hid hx
  have HW : Hid (IntKind.u64.wrap ((a ^^^ b : Nat) : Int) = ((a ^^^ b : Nat) : Int)) := Lib.hid (by rw [IntKind.wrap_u64]; omega)
  have h0 : (0 : Int) ≤ (a : Int) := Int.natCast_nonneg _
  have h1 : (a : Int) < 16 := by omega
  have HSH := Lib.hid (fun p q => Tryz.shrInt p q (a : Int) k h0 h1 k4)
  have hz0 : 0 ≤ (a : Int) / 2 ^ k := Int.ediv_nonneg h0 (Int.le_of_lt (Int.pow_pos (by decide)))
  have hz1 : (a : Int) / 2 ^ k < 16 := Int.lt_of_le_of_lt (Int.ediv_le_self _ h0) h1
  have HAN := Lib.hid (fun p q => Tryz.andInt p q ((a : Int) / 2 ^ k) hz0 hz1)
  have HBI : Hid (bitI (a : Int) k = (a : Int) / 2 ^ k % 2) := Lib.hid rfl
  have hk0 : (0 : Int) ≤ (k : Int) := Int.natCast_nonneg _
  have hk4 : (k : Int) < 4 := by omega
  obtain ⟨lo1, lo2⟩ := leaf_ok k4
  have KN := Lib.hid (fun u W (hu : Ns W u [⟨1, (k : Int), 0, 0⟩]) => implNegate_any u _ W hu)
  rw [lo1, lo2] at KN
  simp only [if_true] at KN
  have HC : Hid (combL (.leaf 1 (k : Int)) = some [⟨1, (k : Int), 0, 0⟩]) := Lib.hid (by unfold combL; rw [leaf_lay, lo1]; rfl)
  rw [HBI.out]
  generalize (a : Int) / 2 ^ k = z at *
  generalize hy : z % 2 = y at *
  clear hy hz0 hz1 hx x0 x16 hf hk hk2 lo1 lo2 hT hab HBI
  by_cases hy1 : y = 1
  · subst hy1
    simp only [beq_self_eq_true, if_true]
    rw [HC.out]
    go_enter Tryz.func65, Tryz.ntmps65
    go_wp2_with fail
    rw [HXR.out, HW.out]
    refine (KT.out _ (Below.refl _ _)).mono ?_
    rintro e w1 ⟨rfl, rfl⟩
    have tk1 : True := trivial
    have tk2 : True := trivial
    go_wp2_with
      (first
        | (have _t := tk1; clear _t tk1; refine wpList_binR rfl .shr 3 3 (.tmp 16) (.tmp 17) (.int .i64 a) (.int .i64 k) _ rfl rfl rfl (HSH.out _ _ _) ?_)
        | (have _t := tk2; clear _t tk2; refine wpList_binR rfl .and 3 3 (.tmp 18) (.const (.int .i64 1)) (.int .i64 z) (.int .i64 1) _ rfl rfl rfl (HAN.out _ _ _) ?_))
    go_returns
    exact ⟨_, rfl, World.ownsRow_lit w1 #[.int .i64 1, .int .i64 k, .int .i64 0, .int .i64 0] 1 (Nat.le_refl _) (by decide) rfl, by go_grown⟩
  · have e1 : (y == 1) = false := by simpa using hy1
    rw [e1]
    simp only [Bool.false_eq_true, if_false]
    generalize combL (Tm.deny (.leaf 1 (k : Int))) = R at *
    unfold Ans at KN ⊢
    generalize hR1 : R.isSome = r1 at *
    generalize hR2 : R.getD [] = r2 at *
    clear hR1 hR2 HC
    go_enter Tryz.func65, Tryz.ntmps65
    go_wp2_with fail
    rw [HXR.out, HW.out]
    refine (KT.out _ (Below.refl _ _)).mono ?_
    rintro e w1 ⟨rfl, rfl⟩
    have tk3 : True := trivial
    have tk4 : True := trivial
    have tk5 : True := trivial
    go_wp2_with
      (first
        | (have _t := tk3; clear _t tk3; refine wpList_binR rfl .shr 3 3 (.tmp 16) (.tmp 17) (.int .i64 a) (.int .i64 k) _ rfl rfl rfl (HSH.out _ _ _) ?_)
        | (have _t := tk4; clear _t tk4; refine wpList_binR rfl .and 3 3 (.tmp 18) (.const (.int .i64 1)) (.int .i64 z) (.int .i64 1) _ rfl rfl rfl (HAN.out _ _ _) ?_)
        | (have _t := tk5; clear _t tk5; go_at_call 71; refine (KN.out _ _ (Ns.of_own (n := 1) (World.ownsRow_lit w1 #[.int .i64 1, .int .i64 k, .int .i64 0, .int .i64 0] 1 (Nat.zero_le _) (by decide) rfl))).mono ?_; rintro e w2 ⟨v2, rfl, ho2, hb2⟩))
    go_returns
    exact ⟨_, rfl, own_mono ho2 (by simp), Below.trans (by go_grown) (hb2.mono (by simp))⟩
end Go.Proofs.YtnpfnfenkklocaaGreatDoor
