/-
  Three numbers of cards: laws.toDeal; an argument that is one; its cells in a block of its own. No condition.
-/
import Derived.Test.YteahjnobnbafiaaDoorCdm
import Derived.Test.YteahjnobnbafiaaDoorZLib
import Derived.Deep.Slices
import Derived.ChangeSame
import Derived.WideShapes
import Derived.Lib.SmallJoins
namespace Go.Proofs.YteahjnobnbafiaaDoor
open Go.RowKit Go.WideShapes
open Go Go.Deep
set_option linter.unusedSimpArgs false

/-- an argument that is three numbers of cards -/
def Dv (v : Value) (x : Dl) : Prop := v = x.v ∧ (Lit.int .i64 x.a).wf = true ∧ (Lit.int .i64 x.b).wf = true ∧ (Lit.int .i64 x.c).wf = true
/-- the cells of such an argument in a block of their own -/
def Dcell (w : World) (b : Nat) (p : Dl) : Prop := w.cell? ⟨b, 0, none⟩ = some (.int .i64 p.a) ∧ w.cell? ⟨b, 1, none⟩ = some (.int .i64 p.b) ∧ w.cell? ⟨b, 2, none⟩ = some (.int .i64 p.c) ∧ b < w.heap.size
theorem Dcell.new (w : World) (p : Dl) (T : TypeId) : Dcell (w.alloc (.cells #[.int .i64 p.a, .int .i64 p.b, .int .i64 p.c] T)) w.heap.size p := ⟨(World.cell?_alloc_at _ _ _ _ rfl).trans rfl, (World.cell?_alloc_at _ _ _ _ rfl).trans rfl, (World.cell?_alloc_at _ _ _ _ rfl).trans rfl, by simp⟩
theorem Dcell.below {w w' : World} {b : Nat} {p : Dl} (h : Dcell w b p) (hb : Below w.heap.size w w') : Dcell w' b p :=
  ⟨(hb.cell (p := ⟨b, 0, none⟩) h.2.2.2).trans h.1, (hb.cell (p := ⟨b, 1, none⟩) h.2.2.2).trans h.2.1, (hb.cell (p := ⟨b, 2, none⟩) h.2.2.2).trans h.2.2.1, Nat.lt_of_lt_of_le h.2.2.2 hb.size⟩
theorem Dcell.lt {w : World} {b : Nat} {p : Dl} (h : Dcell w b p) : b < w.heap.size := h.2.2.2
theorem Dcell.of_block {w w' : World} {b : Nat} {p : Dl} (h : Dcell w b p) (e : w'.heap[b]? = w.heap[b]?) : Dcell w' b p := by
  obtain ⟨h1, h2, h3, h4⟩ := h
  refine ⟨?_, ?_, ?_, ?_⟩
  · rw [← h1]; unfold World.cell?; rw [e]
  · rw [← h2]; unfold World.cell?; rw [e]
  · rw [← h3]; unfold World.cell?; rw [e]
  · rw [Array.getElem?_eq_getElem h4] at e; exact (Array.getElem?_eq_some_iff.1 e).1
end Go.Proofs.YteahjnobnbafiaaDoor
