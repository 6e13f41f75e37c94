/-
  Contracts of formulaOf, combine, and impl.Negate, Conjoin, Known, After.
-/
import Derived.Test.YtilpicahlgieiaaLayA
import Derived.Test.YtilpicahlgieiaaTexts
namespace Go.Proofs.Ytilpicahlgieiaa
open Go.RowKit
open Go Go.Deep

/-- an answer that is a list of nodes and a bool -/
def Ans (w : World) (r : Option (List Nd)) (e : Ending) (w' : World) : Prop :=
  ∃ v, e = .returned (.tuple #[v, .bool r.isSome]) ∧ w'.ownsRow w.heap.size 106 4 v (r.getD []).length (ndCells (r.getD [])) ∧ Below w.heap.size w w'
theorem Ans.none_of {w w' : World} (h : Below w.heap.size w w') : Ans w none (.returned (.tuple #[.slice none 0 0, .bool false])) w' := ⟨_, rfl, World.ownsRow_nil _ _ _ _, h⟩
/-- an answer given in a later world -/
theorem Ans.later {w w1 w' : World} {r : Option (List Nd)} {e : Ending} (hb : Below w.heap.size w w1) (h : Ans w1 r e w') : Ans w r e w' := by
  obtain ⟨v, he, ho, hb'⟩ := h
  exact ⟨v, he, own_mono ho hb.size, hb.trans (hb'.mono hb.size)⟩

/-- the formula of a term, if it is one -/
def combL (t : Tm) : Option (List Nd) := if formOk (lay 0 t) then some (lay 0 t) else none
theorem combL_wf {t : Tm} (h : t.wf) : combL t = parsed (txt t) := by
  unfold combL
  by_cases hs : t.size ≤ 40
  · rw [if_pos (lay_formOk h hs), parsed_txt h hs]
  · rw [parsed_big h (by omega), if_neg (by rw [lay_formNot (by omega)]; decide)]

set_option maxRecDepth 100000 in
set_option maxHeartbeats 4000000 in
theorem formulaOf_any (t : Tm) (w : World) (hs : t.size ≤ 199) :
    Calls Try.prog 18 #[tv t] w (Ans w (combL t)) := by
  have KL := Lib.hid (fun W => layOut_any t W (.slice none 0 0) 0 [] W.heap.size (by omega) (World.ownsRow_nil _ _ _ _) (Nat.le_refl _))
  have KO := Lib.hid (fun v W h => implForm_any v (lay 0 t) W h)
  have hl := lay_len 0 t
  cases hf : formOk (lay 0 t) with
  | false =>
    rw [show combL t = none by unfold combL; rw [hf]; rfl]
    rw [hf] at KO
    clear hf hs hl
    go_enter Try.func18, Try.ntmps18
    go_wp2_with fail
    refine (KL.out _).mono ?_
    rintro e w1 ⟨v1, rfl, ho, hb1, _⟩
    rw [List.nil_append] at ho
    have N1 := Lib.hid (Ns.of_own ho)
    have B1 := Lib.hid hb1
    clear ho hb1
    go_wp2_with fail
    refine (KO.out _ _ N1.out).mono ?_
    rintro e w2 ⟨rfl, hb2⟩
    have B2 := Lib.hid (B1.out.trans (hb2.mono B1.out.size)); clear hb2
    go_wp2
    go_returns
    exact Ans.none_of B2.out
  | true =>
    rw [show combL t = some (lay 0 t) by unfold combL; rw [hf]; rfl]
    rw [hf] at KO
    clear hf hs
    have HL := Lib.hid hl
    clear hl
    go_enter Try.func18, Try.ntmps18
    go_wp2_with fail
    refine (KL.out _).mono ?_
    rintro e w1 ⟨v1, rfl, ho, hb1, _⟩
    rw [List.nil_append] at ho
    have O1 := Lib.hid ho
    have N1 := Lib.hid (Ns.of_own ho)
    have B1 := Lib.hid hb1
    clear ho hb1
    go_wp2_with fail
    refine (KO.out _ _ N1.out).mono ?_
    rintro e w2 ⟨rfl, hb2⟩
    have O2 := Lib.hid (own_below O1.out hb2 (Nat.le_refl _))
    have B2 := Lib.hid (B1.out.trans (hb2.mono B1.out.size)); clear hb2
    go_wp2
    go_returns
    refine ⟨_, rfl, ?_, B2.out⟩
    have := O2.out
    rw [Nat.zero_add, ← HL.out] at this
    exact this

end Go.Proofs.Ytilpicahlgieiaa
