/-
  What is reached by steps of a relation, in mathematics. No program.
-/
import Derived.WalkKit
namespace Go.Proofs.Ytegmoojjffkacaa

/-- j is reached from i by steps of r whose stations between are among the first k -/
def wsh (r : Nat → Nat → Bool) : Nat → Nat → Nat → Bool
  | 0, i, j => i == j || r i j
  | k + 1, i, j => wsh r k i j || (wsh r k i k && wsh r k k j)
theorem wsh_le {r : Nat → Nat → Bool} {i j : Nat} : ∀ {k l : Nat}, k ≤ l → wsh r k i j = true → wsh r l i j = true
  | k, 0, h, e => by obtain rfl : k = 0 := by omega
                     exact e
  | k, l + 1, h, e => by
    rcases Nat.lt_or_eq_of_le h with h1 | h1
    · rw [wsh, wsh_le (Nat.le_of_lt_succ h1) e, Bool.true_or]
    · subst h1; exact e
theorem wsh_refl (r : Nat → Nat → Bool) (k i : Nat) : wsh r k i i = true := wsh_le (Nat.zero_le _) (by simp [wsh])
theorem wsh_step {r : Nat → Nat → Bool} {i j : Nat} (k : Nat) (h : r i j = true) : wsh r k i j = true := wsh_le (Nat.zero_le _) (by simp [wsh, h])
theorem wsh_trans {r : Nat → Nat → Bool} : ∀ {k i j l : Nat}, j < k → wsh r k i j = true → wsh r k j l = true → wsh r k i l = true
  | 0, _, _, _, h, _, _ => absurd h (by omega)
  | k + 1, i, j, l, h, a, b => by
    rw [wsh, Bool.or_eq_true, Bool.and_eq_true] at a b ⊢
    rcases Nat.lt_or_eq_of_le (Nat.le_of_lt_succ h) with hj | hj
    · rcases a with a | ⟨a1, a2⟩
      · rcases b with b | ⟨b1, b2⟩
        · exact .inl (wsh_trans hj a b)
        · exact .inr ⟨wsh_trans hj a b1, b2⟩
      · rcases b with b | ⟨b1, b2⟩
        · exact .inr ⟨a1, wsh_trans hj a2 b⟩
        · exact .inr ⟨a1, b2⟩
    · subst hj
      have a' : wsh r j i j = true := by rcases a with a | ⟨a1, _⟩ <;> assumption
      have b' : wsh r j j l = true := by rcases b with b | ⟨_, b2⟩ <;> assumption
      exact .inr ⟨a', b'⟩
/-- what is closed under r and has i has all that is reached from i -/
theorem wsh_least {r : Nat → Nat → Bool} {T : Nat → Bool} (hT : ∀ i j, T i = true → r i j = true → T j = true) : ∀ {k i j : Nat}, T i = true → wsh r k i j = true → T j = true
  | 0, i, j, h, e => by
    rw [wsh, Bool.or_eq_true, beq_iff_eq] at e
    rcases e with e | e
    · subst e; exact h
    · exact hT _ _ h e
  | k + 1, i, j, h, e => by
    rw [wsh, Bool.or_eq_true, Bool.and_eq_true] at e
    rcases e with e | ⟨e1, e2⟩
    · exact wsh_least hT h e
    · exact wsh_least hT (wsh_least hT h e1) e2
/-- the least set that has i and is closed under r, r within the first n -/
theorem wsh_unique {r : Nat → Nat → Bool} {n i : Nat} {S : Nat → Bool} (h0 : S i = true) (hc : ∀ i j, S i = true → r i j = true → S j = true) (hl : ∀ j, S j = true → wsh r n i j = true) : ∀ j, S j = wsh r n i j := by
  intro j
  rw [Bool.eq_iff_iff]
  exact ⟨hl j, fun h => wsh_least hc h0 h⟩
/-- one step more -/
theorem wsh_more {r : Nat → Nat → Bool} {n i j l : Nat} (hr : ∀ i j, r i j = true → i < n ∧ j < n) (h : wsh r n i j = true) (e : r j l = true) : wsh r n i l = true :=
  wsh_trans (hr _ _ e).1 h (wsh_step n e)
theorem wsh_congr {r q : Nat → Nat → Bool} (h : ∀ i j, r i j = q i j) : ∀ k i j, wsh r k i j = wsh q k i j
  | 0, i, j => by rw [wsh, wsh, h]
  | k + 1, i, j => by rw [wsh, wsh, wsh_congr h, wsh_congr h, wsh_congr h]
/-- what is reached lies within the first n -/
theorem wsh_in {r : Nat → Nat → Bool} {n i j : Nat} (hr : ∀ i j, r i j = true → i < n ∧ j < n) (hi : i < n) (h : wsh r n i j = true) : j < n := by
  have := wsh_least (r := r) (T := fun j => decide (j < n)) (fun i j _ e => decide_eq_true (hr i j e).2) (i := i) (j := j) (k := n) (decide_eq_true hi) h
  exact of_decide_eq_true this
end Go.Proofs.Ytegmoojjffkacaa
