/-
  What FnNumbers rests on: for the limits from 1 to 12 and all their pairs the answers are reckoned out. No program text.
-/
import Derived.Test.YtmcjimmebbkjcaaPrm
namespace Go.Proofs.Ytmcjimmebbkjcaa

/-- all that the law asks of the answers l of a pair -/
def chkL (n : Nat) (p : Pr) (l : List Bool) : Bool :=
  decide (1 ≤ l.length) && decide (l.length ≤ n + 1) && prOk p && (l == List.replicate (l.length - 1) false ++ [true]) &&
  ownP (leftR n (l.take (l.length - 1))) p ((l.length - 1) % 2 == 0) && decide ((leftR n l).length ≤ (leftR n (l.take (l.length - 1))).length) && decide ((allR n).length = 2 * n) &&
  hasP (leftR n l) p && (leftR n l).all (fun x => ownP (leftR n (l.take (l.length - 1))) x ((l.length - 1) % 2 == 0)) &&
  decide ((afterP (leftR n (l.take (l.length - 1))) ((l.length - 1) % 2 == 0) false).length + (leftR n l).length = (leftR n (l.take (l.length - 1))).length)
def chkN (n : Nat) (p : Pr) : Bool := match ansR n p with | none => false | some l => chkL n p l
set_option maxRecDepth 1000000 in
theorem chk_1 : (List.range 9).all (fun n => n == 0 || (allR n).all (chkN n)) = true := by decide +kernel
set_option maxRecDepth 1000000 in
theorem chk_9 : (allR (9 : Nat)).all (chkN 9) = true := by decide +kernel
set_option maxRecDepth 1000000 in
theorem chk_10 : (allR (10 : Nat)).all (chkN 10) = true := by decide +kernel
set_option maxRecDepth 1000000 in
theorem chk_11 : (allR (11 : Nat)).all (chkN 11) = true := by decide +kernel
set_option maxRecDepth 1000000 in
theorem chk_12 : (allR (12 : Nat)).all (chkN 12) = true := by decide +kernel
theorem chk_any {n : Nat} {p : Pr} (h1 : 1 ≤ n) (h12 : n ≤ 12) (hp : p ∈ allR n) : chkN n p = true := by
  rcases Nat.lt_or_ge n 9 with h | h
  · have := (List.all_eq_true.1 chk_1) n (List.mem_range.2 h)
    rw [beq_eq_false_iff_ne.2 (by omega), Bool.false_or] at this
    exact (List.all_eq_true.1 this) p hp
  · have hn : n = 9 ∨ n = 10 ∨ n = 11 ∨ n = 12 := by omega
    rcases hn with rfl | rfl | rfl | rfl
    · exact (List.all_eq_true.1 chk_9) p hp
    · exact (List.all_eq_true.1 chk_10) p hp
    · exact (List.all_eq_true.1 chk_11) p hp
    · exact (List.all_eq_true.1 chk_12) p hp
/-- what the law of FnNumbers needs -/
theorem nums_any {n : Nat} {p : Pr} (h1 : 1 ≤ n) (h12 : n ≤ 12) (hp : p ∈ allR n) : ∃ l, ansR n p = some l ∧ 1 ≤ l.length ∧ l.length ≤ n + 1 ∧ prOk p = true ∧ l = List.replicate (l.length - 1) false ++ [true] ∧
    ownP (leftR n (l.take (l.length - 1))) p ((l.length - 1) % 2 == 0) = true ∧ (leftR n l).length ≤ (leftR n (l.take (l.length - 1))).length ∧ (allR n).length = 2 * n ∧ hasP (leftR n l) p = true ∧
    (∀ x ∈ leftR n l, ownP (leftR n (l.take (l.length - 1))) x ((l.length - 1) % 2 == 0) = true) ∧ (afterP (leftR n (l.take (l.length - 1))) ((l.length - 1) % 2 == 0) false).length + (leftR n l).length = (leftR n (l.take (l.length - 1))).length := by
  have h := chk_any h1 h12 hp
  unfold chkN at h
  cases hl : ansR n p with
  | none => rw [hl] at h; cases h
  | some l =>
    rw [hl] at h
    unfold chkL at h
    simp only [Bool.and_eq_true, decide_eq_true_eq, beq_iff_eq, List.all_eq_true] at h
    obtain ⟨⟨⟨⟨⟨⟨⟨⟨⟨a1, a2⟩, a3⟩, a4⟩, a5⟩, a6⟩, a7⟩, a8⟩, a9⟩, a10⟩ := h
    exact ⟨l, rfl, a1, a2, a3, a4, by simpa using a5, a6, a7, a8, fun x hx => by simpa using a9 x hx, by simpa using a10⟩
end Go.Proofs.Ytmcjimmebbkjcaa
