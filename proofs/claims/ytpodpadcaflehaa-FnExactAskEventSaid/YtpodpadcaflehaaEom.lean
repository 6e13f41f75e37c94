/-
  Which event models are valid, in mathematics. No program but its types' numbers.
-/
import Derived.Test.YtpodpadcaflehaaEvm
import Derived.Test.YtpodpadcaflehaaZMok
namespace Go.Proofs.Ytpodpadcaflehaa
open Go.RowKit Go.WideShapes
open Go Go.Deep
set_option linter.unusedSimpArgs false

/-- the events as worlds without facts -/
def frameM (e : Ed) : Md := ⟨List.replicate e.conds.length 0, e.blocks, e.actual⟩
/-- a valid event model -/
def edOk (e : Ed) : Bool := decide (e.conds.length ≤ 4) && (List.range e.conds.length).all (fun j => formOk (e.conds.getD j [])) && mdOk (frameM e)
/-- .. as the specification asks -/
def edOkS (e : Ed) : Bool :=
  decide (1 ≤ e.conds.length ∧ e.conds.length ≤ 4) && decide (1 ≤ e.blocks.length ∧ e.blocks.length ≤ 3) && inB e.actual e.conds.length &&
    (List.range e.conds.length).all (fun j => formOk (e.conds.getD j [])) && (List.range e.blocks.length).all (fun k => (e.blocks.getD k []).length == e.conds.length && ordOk (e.blocks.getD k []))
theorem frame_facts (e : Ed) : (frameM e).facts.length = e.conds.length := by unfold frameM; simp
theorem edOk_spec (e : Ed) : edOkS e = edOk e := by
  have h := specOk_mdOk (frameM e)
  unfold edOk
  rw [← h]
  unfold specOk edOkS
  rw [frame_facts]
  have hf : ((List.range e.conds.length).all fun j => inB ((frameM e).facts.getD j 0) 16) = true := by
    rw [List.all_eq_true]
    intro j hj
    have e0 : (frameM e).facts.getD j 0 = 0 := by
      unfold frameM
      rw [List.getD_eq_getElem?_getD, List.getElem?_replicate]
      split <;> rfl
    rw [e0]; decide
  rw [hf]
  show _ = (decide (e.conds.length ≤ 4) && _ && (decide (1 ≤ e.conds.length ∧ e.conds.length ≤ 16) && decide (1 ≤ e.blocks.length ∧ e.blocks.length ≤ 3) && inB e.actual e.conds.length && true && _))
  generalize ((List.range e.conds.length).all fun j => formOk (e.conds.getD j [])) = x
  rw [show (frameM e).blocks = e.blocks from rfl]
  generalize ((List.range e.blocks.length).all fun k => (e.blocks.getD k []).length == e.conds.length && ordOk (e.blocks.getD k [])) = y
  generalize decide (1 ≤ e.blocks.length ∧ e.blocks.length ≤ 3) = z
  generalize inB e.actual e.conds.length = u
  by_cases h1 : 1 ≤ e.conds.length <;> by_cases h2 : e.conds.length ≤ 4
  · rw [decide_eq_true ⟨h1, h2⟩, decide_eq_true h2, decide_eq_true (show 1 ≤ e.conds.length ∧ e.conds.length ≤ 16 by omega)]
    cases x <;> cases y <;> cases z <;> cases u <;> rfl
  · rw [decide_eq_false (fun h => h2 h.2), decide_eq_false h2]
    simp
  · rw [decide_eq_false (fun h => h1 h.1), decide_eq_false (show ¬ (1 ≤ e.conds.length ∧ e.conds.length ≤ 16) from fun h => h1 h.1)]
    simp
  · rw [decide_eq_false (fun h => h2 h.2), decide_eq_false h2]
    simp
theorem edOk_parts {e : Ed} (h : edOk e = true) : 1 ≤ e.conds.length ∧ e.conds.length ≤ 4 ∧ (∀ j, j < e.conds.length → formOk (e.conds.getD j []) = true) ∧ mdOk (frameM e) = true := by
  have h2 := h
  rw [← edOk_spec] at h2
  unfold edOk at h
  unfold edOkS at h2
  simp only [Bool.and_eq_true, decide_eq_true_eq, List.all_eq_true, List.mem_range] at h h2
  exact ⟨h2.1.1.1.1.1, h.1.1, h.1.2, h.2⟩
/-- the event models of one condition, or of two that one agent can tell apart -/
def seenM (agent agents : Int) (cs : List (List Nd)) : Ed := ⟨cs, (List.range agents.toNat).map fun (k : Nat) => if (k : Int) = agent then ((List.range cs.length).map fun (i : Nat) => (i : Int)) else List.replicate cs.length 0, 0⟩
def seenR (agent agents : Int) (cs : List (List Nd)) : Option Ed :=
  if inB agent agents && decide (agents ≤ 3) && cs.all formOk then some (seenM agent agents cs) else none
end Go.Proofs.Ytpodpadcaflehaa
