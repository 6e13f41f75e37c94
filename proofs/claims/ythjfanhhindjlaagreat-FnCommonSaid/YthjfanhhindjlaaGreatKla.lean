/-
  Formulas given by a term: parsed from their text, equivalent, their text. Condition: the term is well formed, of at most 40 nodes.
-/
import Derived.Test.YthjfanhhindjlaaGreatZDrg
import Derived.Test.YthjfanhhindjlaaGreatLawQ
import Derived.Test.YthjfanhhindjlaaGreatZCmb
import Derived.Test.YthjfanhhindjlaaGreatTeq
namespace Go.Proofs.YthjfanhhindjlaaGreat
open Go.RowKit Go.WideShapes
open Go Go.Deep
set_option linter.unusedSimpArgs false

/-- an answer: the nodes xs, and true -/
def OkF (w : World) (xs : List Nd) (e : Ending) (w' : World) : Prop := ∃ a c, e = .returned (.tuple #[.slice a xs.length c, .bool true]) ∧ Ns w' (.slice a xs.length c) xs ∧ Below w.heap.size w w'
theorem OkF.of_ans {w w' : World} {xs : List Nd} {e : Ending} (h : Ans w (some xs) e w') : OkF w xs e w' := by
  obtain ⟨v, rfl, ho, hb⟩ := h
  have hn := Ns.of_own ho
  obtain ⟨a, c, rfl, -⟩ := hn.parts
  exact ⟨a, c, rfl, hn, hb⟩
theorem parse_lay {t : Tm} (hw : t.wf) (hs : t.size ≤ 40) (w : World) : Calls Tryz.prog 21 #[.string (str (txt t))] w (OkF w (lay 0 t)) := by
  have h := implParseF_any (txt t) w (by have := (txt_len t).2; unfold maxLen; omega)
  rw [parsed_txt hw hs] at h
  exact h.mono fun e w' h => OkF.of_ans h
theorem equiv_lay {m : Md} {t u : Tm} (hm : mdOk m = true) (h2 : 2 ≤ m.blocks.length) (hw : t.wf) (hs : t.size ≤ 40) (ha : t.ag 2) (hw' : u.wf) (hs' : u.size ≤ 40) (ha' : u.ag 2) (h : eqB (evI t m) (evI u m) = true) : equivR m (lay 0 t) (lay 0 u) = true := by
  unfold equivR; rw [evOk_lay hm hw hs (A := 2) (by omega) h2 ha, evP_lay hw hs, evOk_lay hm hw' hs' (A := 2) (by omega) h2 ha', evP_lay hw' hs', h]; rfl
theorem textL_lay {t : Tm} (hw : t.wf) (hs : t.size ≤ 40) : textL (lay 0 t) = str (txt t) := by unfold textL; rw [lay_formOk hw hs, if_pos rfl, show termOfL (lay 0 t) = t from lay_tm hw hs]
end Go.Proofs.YthjfanhhindjlaaGreat
