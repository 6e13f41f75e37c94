/-
  Contract of spec.l03Reach. Condition: the model is valid, there is a bool for each world, and the world is one of the model.
-/
import Derived.Test.YtegmoojjffkacaaBol
import Derived.Test.YtegmoojjffkacaaRea
namespace Go.Proofs.Ytegmoojjffkacaa
open Go.RowKit Go.WideShapes
open Go Go.Deep
set_option linter.unusedSimpArgs false

/-- a step of any agent to a world that is alive -/
def stepA (m : Md) (al : Nat → Bool) : Nat → Nat → Bool := fun i j => decide (i < m.facts.length) && decide (j < m.facts.length) && al j && near m.blocks m.blocks.length i j
theorem stepA_in {m : Md} {al : Nat → Bool} {i j : Nat} (h : stepA m al i j = true) : i < m.facts.length ∧ j < m.facts.length := by
  unfold stepA at h
  simp only [Bool.and_eq_true, decide_eq_true_eq] at h
  exact h.1.1
def reachA (m : Md) (al : Nat → Bool) (x : Nat) : Nat → Bool := wsh (stepA m al) m.facts.length x
theorem nodup_len : ∀ (n : Nat) (l : List Nat), l.Nodup → (∀ i ∈ l, i < n) → l.length ≤ n
  | 0, l, _, h => by cases l with
    | nil => simp
    | cons a t => exact absurd (h a (List.mem_cons_self ..)) (by omega)
  | n + 1, l, hn, h => by
    have h1 := nodup_len n (l.erase n) (hn.erase n) (fun i hi => by
      have h2 := (hn.mem_erase_iff).1 hi
      have := h i h2.2
      omega)
    rw [List.length_erase] at h1
    split at h1 <;> omega
/-- the queue and what it has been held against: t of its worlds are done -/
def bfs (r : Nat → Nat → Bool) (n x : Nat) (q : List Nat) (t : Nat) : Prop :=
  q.Nodup ∧ (∀ i ∈ q, i < n) ∧ x ∈ q ∧ (∀ i ∈ q, wsh r n x i = true) ∧ ∀ s, s < t → ∀ j, r (q.getD s 0) j = true → j ∈ q
def doneTo (r : Nat → Nat → Bool) (q : List Nat) (u j : Nat) : Prop := ∀ i, i < j → r u i = true → i ∈ q
def doneA (m : Md) (al : Nat → Bool) (q : List Nat) (u j k : Nat) : Prop := ∀ a, a < k → al j = true → (m.blocks.getD a []).getD j 0 = (m.blocks.getD a []).getD u 0 → j ∈ q
theorem bfs_0 {r : Nat → Nat → Bool} {n x : Nat} (hx : x < n) : bfs r n x [x] 0 :=
  ⟨by simp, fun i hi => by simp at hi; omega, by simp, fun i hi => by simp at hi; subst hi; exact wsh_refl _ _ _, fun s h => by omega⟩
theorem getD_appN {q : List Nat} {j s : Nat} (h : s < q.length) : (q ++ [j]).getD s 0 = q.getD s 0 := by
  rw [List.getD_eq_getElem?_getD, List.getElem?_append_left h, ← List.getD_eq_getElem?_getD]
theorem bfs_push {r : Nat → Nat → Bool} {n x : Nat} {q : List Nat} {t u j : Nat} (hr : ∀ i j, r i j = true → i < n ∧ j < n) (h : bfs r n x q t) (ht : t < q.length) (hu : q.getD t 0 = u) (hj : j ∉ q) (e : r u j = true) : bfs r n x (q ++ [j]) t := by
  obtain ⟨h1, h2, h3, h4, h5⟩ := h
  have hum : u ∈ q := by rw [← hu, List.getD_eq_getElem?_getD, List.getElem?_eq_getElem ht]; exact List.getElem_mem _
  refine ⟨?_, fun i hi => ?_, List.mem_append_left _ h3, fun i hi => ?_, fun s hs i hi => ?_⟩
  · rw [List.nodup_append]
    exact ⟨h1, by simp, fun a ha b hb e2 => by simp at hb; subst hb; subst e2; exact hj ha⟩
  · rcases List.mem_append.1 hi with hi | hi
    · exact h2 i hi
    · simp at hi; subst hi; exact (hr _ _ e).2
  · rcases List.mem_append.1 hi with hi | hi
    · exact h4 i hi
    · simp at hi; subst hi; exact wsh_more hr (h4 u hum) e
  · rw [getD_appN (by omega)] at hi
    exact List.mem_append_left _ (h5 s hs i hi)
theorem bfs_next {r : Nat → Nat → Bool} {n x : Nat} {q : List Nat} {t u : Nat} (h : bfs r n x q t) (hr : ∀ i j, r i j = true → i < n ∧ j < n) (hu : q.getD t 0 = u) (hd : doneTo r q u n) : bfs r n x q (t + 1) := by
  obtain ⟨h1, h2, h3, h4, h5⟩ := h
  refine ⟨h1, h2, h3, h4, fun s hs i hi => ?_⟩
  rcases Nat.lt_or_eq_of_le (Nat.le_of_lt_succ hs) with h6 | h6
  · exact h5 s h6 i hi
  · subst h6; rw [hu] at hi; exact hd i (hr _ _ hi).2 hi
theorem doneTo_push {r : Nat → Nat → Bool} {q : List Nat} {u j k : Nat} (h : doneTo r q u j) : doneTo r (q ++ [k]) u j := fun i hi e => List.mem_append_left _ (h i hi e)
theorem doneTo_next {m : Md} {al : Nat → Bool} {q : List Nat} {u j : Nat} (h : doneTo (stepA m al) q u j) (h2 : doneA m al q u j m.blocks.length) : doneTo (stepA m al) q u (j + 1) := by
  intro i hi e
  rcases Nat.lt_or_eq_of_le (Nat.le_of_lt_succ hi) with h6 | h6
  · exact h i h6 e
  · subst h6
    unfold stepA near at e
    simp only [Bool.and_eq_true, decide_eq_true_eq, List.any_eq_true, List.mem_range, beq_iff_eq] at e
    obtain ⟨⟨_, ha⟩, k, hk, e⟩ := e
    exact h2 k hk ha e.symm
theorem doneA_next {m : Md} {al : Nat → Bool} {q : List Nat} {u j k : Nat} (h : doneA m al q u j k) (h2 : al j = true → (m.blocks.getD k []).getD j 0 = (m.blocks.getD k []).getD u 0 → j ∈ q) : doneA m al q u j (k + 1) := by
  intro a ha h3 h4
  rcases Nat.lt_or_eq_of_le (Nat.le_of_lt_succ ha) with h6 | h6
  · exact h a h6 h3 h4
  · subst h6; exact h2 h3 h4
theorem stepA_yes {m : Md} {al : Nat → Bool} {u j k : Nat} (hu : u < m.facts.length) (hj : j < m.facts.length) (ha : al j = true) (hk : k < m.blocks.length) (e : (m.blocks.getD k []).getD j 0 = (m.blocks.getD k []).getD u 0) : stepA m al u j = true := by
  unfold stepA near
  simp only [Bool.and_eq_true, decide_eq_true_eq, List.any_eq_true, List.mem_range, beq_iff_eq]
  exact ⟨⟨⟨hu, hj⟩, ha⟩, k, hk, e.symm⟩
/-- which worlds stand in the queue -/
def seenL (n : Nat) (q : List Nat) : List Bool := (List.range n).map fun i => decide (i ∈ q)
theorem seenL_len (n : Nat) (q : List Nat) : (seenL n q).length = n := by simp [seenL]
theorem seenL_get {n j : Nat} {q : List Nat} (h : j < n) : (bools (seenL n q))[j]? = some (.bool (decide (j ∈ q))) := by
  unfold bools seenL; rw [List.getElem?_map, List.getElem?_map, List.getElem?_range h]; rfl
theorem seenL_push {n j : Nat} {q : List Nat} : (bools (seenL n q)).set j (.bool true) = bools (seenL n (q ++ [j])) := by
  rw [bools_set]
  congr 1
  unfold seenL
  apply List.ext_getElem?
  intro i
  rcases Nat.lt_or_ge i n with hi | hi
  · by_cases e : j = i
    · subst e; rw [List.getElem?_set_self (by simpa using hi), List.getElem?_map, List.getElem?_range hi]; simp
    · rw [List.getElem?_set_ne e, List.getElem?_map, List.getElem?_map, List.getElem?_range hi]
      simp [show ¬ i = j from fun h => e h.symm]
  · rw [List.getElem?_eq_none (by simpa using hi), List.getElem?_eq_none (by simpa using hi)]
theorem bfs_end {r : Nat → Nat → Bool} {n x : Nat} {q : List Nat} {t : Nat} (h : bfs r n x q t) (ht : q.length ≤ t) : seenL n q = (List.range n).map (wsh r n x) := by
  obtain ⟨h1, h2, h3, h4, h5⟩ := h
  unfold seenL
  refine List.map_congr_left fun i _ => ?_
  refine wsh_unique (S := fun i => decide (i ∈ q)) (decide_eq_true h3) (fun i j hi e => ?_) (fun j hj => h4 j (of_decide_eq_true hj)) i
  have hi := of_decide_eq_true hi
  obtain ⟨s, hs, e2⟩ := List.getElem_of_mem hi
  refine decide_eq_true (h5 s (by omega) j ?_)
  rw [List.getD_eq_getElem?_getD, List.getElem?_eq_getElem hs]
  simp only [Option.getD_some]
  rw [e2]; exact e
end Go.Proofs.Ytegmoojjffkacaa
