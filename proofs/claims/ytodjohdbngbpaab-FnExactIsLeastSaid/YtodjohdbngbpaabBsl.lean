/-
  What grows below keeps what is owned; laws at building a slice of one element. No condition.
-/
import Derived.Test.YtodjohdbngbpaabZArr
import Derived.Maps.AppendAt
namespace Go.Proofs.Ytodjohdbngbpaab
open Go.RowKit Go.WideShapes
open Go Go.Deep

theorem grown_of_below {W W' : World} (h : Below W.heap.size W W') (row : Option Nat) : W.grownBy W' row := ⟨h.os, h.tape, h.output, h.size, fun i hi _ => h.block i hi⟩
theorem own_below' {w W : World} {base n sz : Nat} {E : TypeId} {v : Value} {xs : List Value} (h : w.ownsRow base E sz v n xs) (hb : Below w.heap.size w W) : W.ownsRow base E sz v n xs := h.kept (grown_of_below hb none) (by cases v.ownBlock <;> simp)
theorem Cm.kept {W W' : World} {b : Nat} {T : TypeId} {cs : List Value} {row : Option Nat} (h : Cm W b T cs) (hg : W.grownBy W' row) (hne : some b ≠ row) : Cm W' b T cs := h.of_block (hg.block b h.lt hne)
theorem at_grown {b : Nat} {W W' : World} (h : At b W W') : W.grownBy W' (some b) := ⟨h.os, h.tape, h.output, Nat.le_of_eq h.size.symm, fun i _ hi => h.block i (fun e => hi (by rw [e]))⟩
theorem wpList_buildSliceM {P : Program} {ops : Array Oper} {rest : List Oper} {o : Oper} {a : Act} {w : World} {Q : Exit → Act → World → Prop} (hgd : o.guard = none) (T : TypeId) (len : Nat) (parts : Array (Nat × Operand)) (ho : o.op = .buildSlice T len parts)
    (vs : Array (Nat × Value)) (hv : (parts.map fun (i, x) => (i, a.eval x)) = vs) (cs : List Value) (E : TypeId) (hr : (Instr.buildSlice T len vs).run P w = .ok (.slice (some ⟨w.heap.size, 0, none⟩) len len) (w.alloc (.cells cs.toArray E)))
    (h : ∀ w', Cm w' w.heap.size E cs → Below w.heap.size w w' → wpList P ops Q rest (a.put o.dst (.slice (some ⟨w.heap.size, 0, none⟩) len len)) w') : wpList P ops Q (o :: rest) a w := by
  refine wpList_plain hgd fun K' hK' => ?_
  unfold Oper.wp
  simp only [execOp, ho, hv, Sem.run_bind, hr, Result.andThen_ok, Sem.run_pure]
  exact hK' _ _ (h _ (Cm.new rfl) ((Below.refl _ _).alloc (Nat.le_refl _) _))
theorem own_cm1 {w : World} {base b : Nat} {E : TypeId} {cs : List Value} (h : Cm w b E cs) (hb : base ≤ b) : w.ownsRow base E cs.length (.slice (some ⟨b, 0, none⟩) 1 1) 1 cs :=
  ⟨by simp, .inr ⟨b, 1, cs.toArray, rfl, hb, h, Nat.le_refl _, by unfold maxLen; omega, by simp, by simp⟩⟩
end Go.Proofs.Ytodjohdbngbpaab
