/-
  Several texts in one: Drf Evo. Conditions: as each theorem says.
-/
import Derived.Test.YtodjohdbngbpaaaGreatDrg
import Derived.Test.YtodjohdbngbpaaaGreatTru
import Derived.Test.YtodjohdbngbpaaaGreatLtm
/-
  Drawn formulas name agents of the model. No program text.
-/
namespace Go.Proofs.YtodjohdbngbpaaaGreat
open Go.RowKit Go.WideShapes
open Go Go.Deep
set_option linter.unusedSimpArgs false

theorem agentOk_le {A : Nat} {op n : Int} (x y : Int) (h0 : 0 ≤ n) (h : (op = 5 ∨ op = 6) → n < A) : agentOk A ⟨op, n, x, y⟩ = true := by
  unfold agentOk inB
  by_cases ho : op = 5 ∨ op = 6
  · have := h ho
    simp; omega
  · simp [ho]
theorem lay_ag {A : Nat} (h1 : 1 ≤ A) : ∀ (t : Tm) (k : Nat), t.wf → t.ag A → ∀ x ∈ lay k t, agentOk A x = true
  | .leaf op n, k, hw, _, x, hx => by
    simp only [lay, List.mem_singleton] at hx
    subst hx
    exact agentOk_le _ _ hw.2.1 (fun h => by have := hw.1; omega)
  | .deny a, k, hw, ha, x, hx => by
    rw [lay, List.mem_append, List.mem_singleton] at hx
    rcases hx with hx | rfl
    · exact lay_ag h1 a k hw ha x hx
    · exact agentOk_le _ _ (by omega) (fun h => by omega)
  | .know op n a, k, hw, ha, x, hx => by
    rw [lay, List.mem_append, List.mem_singleton] at hx
    rcases hx with hx | rfl
    · exact lay_ag h1 a k hw.2.2.2 ha.2 x hx
    · exact agentOk_le _ _ hw.2.1 ha.1
  | .joint op a b, k, hw, ha, x, hx => by
    rw [lay, List.mem_append, List.mem_append, List.mem_singleton] at hx
    rcases hx with (hx | hx) | rfl
    · exact lay_ag h1 a k hw.2.1 ha.1 x hx
    · exact lay_ag h1 b _ hw.2.2 ha.2 x hx
    · exact agentOk_le _ _ (by omega) (fun h => by have := hw.1; omega)
theorem lay_agents {A : Nat} (h1 : 1 ≤ A) {t : Tm} (hw : t.wf) (ha : t.ag A) : agentsOk (lay 0 t) A = true :=
  agents_yes fun k hk => by
    rw [List.getD_eq_getElem?_getD, List.getElem?_eq_getElem hk]
    exact lay_ag h1 t 0 hw ha _ (List.getElem_mem hk)
end Go.Proofs.YtodjohdbngbpaaaGreat

/-
  A laid formula is understood, and where it holds. No program but its types' numbers.
-/
namespace Go.Proofs.YtodjohdbngbpaaaGreat
open Go.RowKit Go.WideShapes
open Go Go.Deep
set_option linter.unusedSimpArgs false

theorem evOk_lay {m : Md} {t : Tm} (hm : mdOk m = true) (hw : t.wf) (hs : t.size ≤ 40) {A : Nat} (h1 : 1 ≤ A) (hA : A ≤ m.blocks.length) (ha : t.ag A) : evOk m (lay 0 t) = true := by
  unfold evOk
  rw [hm, lay_formOk hw hs, lay_agents (A := m.blocks.length) (by omega) hw (Tm.ag_mono (by omega) t ha)]; rfl
theorem evP_lay {m : Md} {t : Tm} (hw : t.wf) (hs : t.size ≤ 40) : evP m (lay 0 t) = evI t m := by
  unfold evP; rw [lay_tm hw hs]
end Go.Proofs.YtodjohdbngbpaaaGreat
