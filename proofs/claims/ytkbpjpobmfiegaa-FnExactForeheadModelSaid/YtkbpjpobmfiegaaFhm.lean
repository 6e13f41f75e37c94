/-
  What ForeheadModel answers: the free model of k facts and k agents in which each agent was told all facts but its own. No program text.
-/
import Derived.Test.YtkbpjpobmfiegaaZSet
import Derived.Test.YtkbpjpobmfiegaaZMok
namespace Go.Proofs.Ytkbpjpobmfiegaa
open Go.RowKit Go.WideShapes
open Go Go.Deep
set_option linter.unusedSimpArgs false

/-- an agent is told all facts below j but its own -/
def tellRow (m : Md) (i : Nat) : Nat → Md
  | 0 => m
  | j + 1 => if j = i then tellRow m i j else tellM (tellRow m i j) i j
/-- the agents below i are told all facts below n but their own -/
def tellAll (m : Md) (n : Nat) : Nat → Md
  | 0 => m
  | i + 1 => tellRow (tellAll m n i) i n
def actM (m : Md) (d : Int) : Md := ⟨m.facts, m.blocks, d⟩
def foreM (k : Nat) (d : Int) : Md := tellAll (actM (freeM (2 ^ k) k) d) k k
def foreR (k d : Int) : Option Md := if 1 ≤ k ∧ k ≤ 3 ∧ 0 ≤ d ∧ d < ((2 ^ k.toNat : Nat) : Int) then some (foreM k.toNat d) else none

theorem tellRow_same (m : Md) (i j : Nat) : (tellRow m i j).facts = m.facts ∧ (tellRow m i j).blocks.length = m.blocks.length ∧ (tellRow m i j).actual = m.actual := by
  induction j with
  | zero => exact ⟨rfl, rfl, rfl⟩
  | succ j ih =>
    unfold tellRow
    split
    · exact ih
    · simpa [tellM] using ih
theorem tellAll_same (m : Md) (n i : Nat) : (tellAll m n i).facts = m.facts ∧ (tellAll m n i).blocks.length = m.blocks.length ∧ (tellAll m n i).actual = m.actual := by
  induction i with
  | zero => exact ⟨rfl, rfl, rfl⟩
  | succ i ih =>
    unfold tellAll
    have h := tellRow_same (tellAll m n i) i n
    rw [h.1, h.2.1, h.2.2]; exact ih
theorem tell_ok' {m : Md} (hm : mdOk m = true) (a f : Nat) : mdOk (tellM m a f) = true := by
  obtain ⟨p1, p2, p3, p4, p5, p6, p7, p8⟩ := mdOk_parts hm
  rw [← specOk_mdOk]
  unfold specOk inB
  simp only [Bool.and_eq_true, decide_eq_true_eq, List.all_eq_true, List.mem_range, beq_iff_eq]
  unfold tellM
  simp only [List.length_set]
  refine ⟨⟨⟨⟨⟨p1, p2⟩, p3, p4⟩, p7, p8⟩, p6⟩, fun k hk => ?_⟩
  by_cases e : k = a
  · subst e
    rw [List.getD_eq_getElem?_getD, List.getElem?_set_self (by omega)]
    simp only [Option.getD_some]
    exact ⟨by rw [num_len, splitL_len], num_ord _⟩
  · rw [List.getD_eq_getElem?_getD, List.getElem?_set_ne (by omega), ← List.getD_eq_getElem?_getD]
    exact p5 k hk
theorem tellRow_ok {m : Md} (hm : mdOk m = true) (i j : Nat) : mdOk (tellRow m i j) = true := by
  induction j with
  | zero => exact hm
  | succ j ih =>
    unfold tellRow
    split
    · exact ih
    · exact tell_ok' ih _ _
theorem tellAll_ok {m : Md} (hm : mdOk m = true) (n i : Nat) : mdOk (tellAll m n i) = true := by
  induction i with
  | zero => exact hm
  | succ i ih => exact tellRow_ok ih _ _
theorem tellM_act (m : Md) (d : Int) (a f : Nat) : tellM (actM m d) a f = actM (tellM m a f) d := rfl
theorem tellRow_act (m : Md) (d : Int) (i j : Nat) : tellRow (actM m d) i j = actM (tellRow m i j) d := by
  induction j with
  | zero => rfl
  | succ j ih =>
    unfold tellRow
    split
    · exact ih
    · rw [ih, tellM_act]
theorem tellAll_act (m : Md) (d : Int) (n i : Nat) : tellAll (actM m d) n i = actM (tellAll m n i) d := by
  induction i with
  | zero => rfl
  | succ i ih =>
    show tellRow (tellAll (actM m d) n i) i n = actM (tellRow (tellAll m n i) i n) d
    rw [ih, tellRow_act]
theorem free_ok {k : Nat} (h1 : 1 ≤ k) (h3 : k ≤ 3) : mdOk (freeM (2 ^ k) k) = true := by
  have hk : k = 1 ∨ k = 2 ∨ k = 3 := by omega
  rcases hk with rfl | rfl | rfl <;> decide +kernel
theorem act_ok {m : Md} (hm : mdOk m = true) {d : Int} (h0 : 0 ≤ d) (h1 : d < m.facts.length) : mdOk (actM m d) = true := by
  obtain ⟨p1, p2, p3, p4, p5, p6, p7, p8⟩ := mdOk_parts hm
  rw [← specOk_mdOk]
  unfold specOk inB
  simp only [Bool.and_eq_true, decide_eq_true_eq, List.all_eq_true, List.mem_range, beq_iff_eq]
  exact ⟨⟨⟨⟨⟨p1, p2⟩, p3, p4⟩, h0, h1⟩, p6⟩, fun k hk => p5 k hk⟩
theorem free_facts (N k : Nat) : (freeM N k).facts.length = N := by simp [freeM, mrow_len]
theorem free_blocks (N k : Nat) : (freeM N k).blocks.length = k := by simp [freeM]
theorem freeR_kk {k : Nat} (h1 : 1 ≤ k) (h3 : k ≤ 3) : freeR (k : Int) (k : Int) = some (freeM (2 ^ k) k) := by
  unfold freeR
  rw [if_pos (by omega), Int.toNat_natCast]
theorem foreR_yes {k : Nat} {d : Int} (h1 : 1 ≤ k) (h3 : k ≤ 3) (h0 : 0 ≤ d) (hd : d < ((2 ^ k : Nat) : Int)) : foreR (k : Int) d = some (foreM k d) := by
  unfold foreR
  rw [if_pos ⟨by omega, by omega, h0, by rw [Int.toNat_natCast]; exact hd⟩, Int.toNat_natCast]
theorem foreR_no {k d : Int} (h : ¬ (1 ≤ k ∧ k ≤ 3 ∧ 0 ≤ d ∧ d < ((2 ^ k.toNat : Nat) : Int))) : foreR k d = none := if_neg h
theorem fore_ok {k : Nat} {d : Int} (h1 : 1 ≤ k) (h3 : k ≤ 3) (h0 : 0 ≤ d) (hd : d < ((2 ^ k : Nat) : Int)) : mdOk (foreM k d) = true :=
  tellAll_ok (act_ok (free_ok h1 h3) h0 (by rw [free_facts]; exact hd)) _ _
end Go.Proofs.Ytkbpjpobmfiegaa
