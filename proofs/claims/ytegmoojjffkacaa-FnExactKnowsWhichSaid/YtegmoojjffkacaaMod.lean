/-
  The mathematics of models: lists of numbers numbered in the order in which they are met. No program.
-/
import Derived.WalkKit
namespace Go.Proofs.Ytegmoojjffkacaa

structure Md where
  facts : List Int
  blocks : List (List Int)
  actual : Int
instance : Inhabited Md := ⟨⟨[], [], 0⟩⟩

/-- the numbers of the first k elements, and how many numbers there are -/
def numS (l : List Int) : Nat → List Int × Nat
  | 0 => ([], 0)
  | k + 1 => if l.idxOf (l.getD k 0) < k then ((numS l k).1 ++ [(numS l k).1.getD (l.idxOf (l.getD k 0)) 0], (numS l k).2) else ((numS l k).1 ++ [((numS l k).2 : Int)], (numS l k).2 + 1)
def num (l : List Int) : List Int := (numS l l.length).1

theorem numS_len (l : List Int) : ∀ k, (numS l k).1.length = k
  | 0 => rfl
  | k + 1 => by unfold numS; have := numS_len l k; split <;> simp [this]
theorem num_len (l : List Int) : (num l).length = l.length := numS_len l _
theorem numS_cnt (l : List Int) : ∀ k, (numS l k).2 ≤ k
  | 0 => Nat.le_refl _
  | k + 1 => by unfold numS; have := numS_cnt l k; split <;> simp <;> omega
theorem numS_bd (l : List Int) : ∀ k y, y ∈ (numS l k).1 → 0 ≤ y ∧ y < (numS l k).2
  | 0, y, h => by simp [numS] at h
  | k + 1, y, h => by
    unfold numS at h ⊢
    split at h
    · rename_i hlt
      rw [if_pos hlt]
      rw [List.mem_append] at h
      rcases h with h | h
      · exact numS_bd l k y h
      · simp only [List.mem_singleton] at h
        subst h
        apply numS_bd l k
        rw [List.getD_eq_getElem?_getD, List.getElem?_eq_getElem (by rw [numS_len]; exact hlt)]
        exact List.getElem_mem _
    · rename_i hlt
      rw [if_neg hlt]
      rw [List.mem_append] at h
      rcases h with h | h
      · have := numS_bd l k y h; simp; omega
      · simp only [List.mem_singleton] at h
        subst h
        simp; omega
theorem getD_app {l : List Int} {y : Int} {i : Nat} (h : i < l.length) : (l ++ [y]).getD i 0 = l.getD i 0 := by
  rw [List.getD_eq_getElem?_getD, List.getElem?_append_left h, List.getD_eq_getElem?_getD]
theorem getD_last {l : List Int} {y : Int} {i : Nat} (h : i = l.length) : (l ++ [y]).getD i 0 = y := by
  rw [List.getD_eq_getElem?_getD, List.getElem?_append_right (by omega)]; simp [h]
theorem getD_mem {l : List Int} {i : Nat} (h : i < l.length) : l.getD i 0 ∈ l := by
  rw [List.getD_eq_getElem?_getD, List.getElem?_eq_getElem h]; exact List.getElem_mem _
theorem idx_le {l : List Int} {k : Nat} (h : k < l.length) : l.idxOf (l.getD k 0) ≤ k := by
  rw [List.getD_eq_getElem?_getD, List.getElem?_eq_getElem h]
  simp only [Option.getD_some]
  rcases Nat.lt_or_ge k (l.idxOf l[k]) with h' | h'
  · exact absurd (List.not_of_lt_findIdx h') (by simp)
  · exact h'
theorem idx_get {l : List Int} {x : Int} (h : x ∈ l) : l.getD (l.idxOf x) 0 = x := by
  have := List.idxOf_lt_length_of_mem h
  rw [List.getD_eq_getElem?_getD, List.getElem?_eq_getElem this]
  simp
theorem idx_min {l : List Int} {x : Int} {j : Nat} (hj : j < l.length) (h : l.getD j 0 = x) : l.idxOf x ≤ j := by subst h; exact idx_le hj

theorem numS_pre1 (l : List Int) {k i : Nat} (hi : i < k) : (numS l (k + 1)).1.getD i 0 = (numS l k).1.getD i 0 := by
  have L := numS_len l k
  by_cases h : l.idxOf (l.getD k 0) < k
  · rw [numS, if_pos h]; exact getD_app (by omega)
  · rw [numS, if_neg h]; exact getD_app (by omega)
/-- two elements are equal exactly if their numbers are -/
theorem numS_same (l : List Int) : ∀ k, k ≤ l.length → ∀ i j, i < k → j < k → (l.getD i 0 = l.getD j 0 ↔ (numS l k).1.getD i 0 = (numS l k).1.getD j 0)
  | 0, _, i, _, h, _ => by omega
  | k + 1, hk, i, j, hi, hj => by
    have IH := numS_same l k (by omega)
    have L := numS_len l k
    have key : ∀ i, i < k → (l.getD i 0 = l.getD k 0 ↔ (numS l (k + 1)).1.getD i 0 = (numS l (k + 1)).1.getD k 0) := by
      intro i hi
      unfold numS
      split
      · rename_i hlt
        simp only
        rw [getD_app (by omega), getD_last L.symm, ← IH i _ hi hlt, idx_get (getD_mem (by omega))]
      · rename_i hlt
        simp only
        rw [getD_app (by omega), getD_last L.symm]
        constructor
        · intro h
          have := idx_min (l := l) (x := l.getD k 0) (j := i) (by omega) h
          omega
        · intro h
          have := numS_bd l k _ (getD_mem (l := (numS l k).1) (i := i) (by omega))
          omega
    have pre : ∀ i, i < k → (numS l (k + 1)).1.getD i 0 = (numS l k).1.getD i 0 := fun i hi => numS_pre1 l hi
    rcases Nat.lt_or_eq_of_le (Nat.le_of_lt_succ hi) with h1 | h1
    · rcases Nat.lt_or_eq_of_le (Nat.le_of_lt_succ hj) with h2 | h2
      · rw [pre i h1, pre j h2]; exact IH i j h1 h2
      · subst h2; exact key i h1
    · subst h1
      rcases Nat.lt_or_eq_of_le (Nat.le_of_lt_succ hj) with h2 | h2
      · rw [eq_comm, key j h2, eq_comm]
      · subst h2; simp

/-- the spec's way to look for an earlier equal element: what is found among the first j -/
def look (l : List Int) (i j : Nat) : Int := if l.idxOf (l.getD i 0) < j then (numS l i).1.getD (l.idxOf (l.getD i 0)) 0 else -1
theorem look_step {l : List Int} {i j : Nat} (hi : i < l.length) (hj : j < i) : look l i (j + 1) = if l.getD j 0 = l.getD i 0 then (numS l i).1.getD j 0 else look l i j := by
  unfold look
  split
  · rename_i hlt
    by_cases e : l.getD j 0 = l.getD i 0
    · rw [if_pos e]
      rw [← numS_same l i (by omega) _ j (by omega) hj, idx_get (getD_mem hi), e]
    · rw [if_neg e, if_pos]
      rcases Nat.lt_or_eq_of_le (Nat.le_of_lt_succ hlt) with h | h
      · exact h
      · subst h; exact absurd (idx_get (getD_mem hi)) e
  · rename_i hlt
    have e : l.getD j 0 ≠ l.getD i 0 := fun e => hlt (Nat.lt_succ_of_le (idx_min (by omega) e))
    rw [if_neg e, if_neg (by omega)]
theorem look_end {l : List Int} {i : Nat} : numS l (i + 1) = if look l i i < 0 then ((numS l i).1 ++ [((numS l i).2 : Int)], (numS l i).2 + 1) else ((numS l i).1 ++ [look l i i], (numS l i).2) := by
  unfold look
  by_cases h : l.idxOf (l.getD i 0) < i
  · have := numS_bd l i _ (getD_mem (l := (numS l i).1) (i := l.idxOf (l.getD i 0)) (by rw [numS_len]; exact h))
    rw [if_pos h, if_neg (by omega)]
    rw [numS, if_pos h]
  · rw [if_neg h, if_pos (by decide), numS, if_neg h]

/-- the greatest of the first k numbers, or -1 -/
def mostOf (l : List Int) : Nat → Int
  | 0 => -1
  | k + 1 => max (mostOf l k) (l.getD k 0)
/-- the first k blocks are numbered in the order in which they are met -/
def ordTo (l : List Int) (k : Nat) : Prop := ∀ i, i < k → 0 ≤ l.getD i 0 ∧ l.getD i 0 ≤ mostOf l i + 1
instance (l : List Int) (k : Nat) : Decidable (ordTo l k) := by unfold ordTo; exact inferInstance
def ordOk (l : List Int) : Bool := decide (ordTo l l.length)
theorem ordTo_succ {l : List Int} {k : Nat} : ordTo l (k + 1) ↔ ordTo l k ∧ 0 ≤ l.getD k 0 ∧ l.getD k 0 ≤ mostOf l k + 1 := by
  constructor
  · intro h; exact ⟨fun i hi => h i (by omega), h k (by omega)⟩
  · intro ⟨h, h'⟩ i hi
    rcases Nat.lt_or_eq_of_le (Nat.le_of_lt_succ hi) with h1 | h1
    · exact h i h1
    · subst h1; exact h'
theorem take_snocI {l : List Int} {k : Nat} (h : k < l.length) : l.take (k + 1) = l.take k ++ [l.getD k 0] := by
  rw [List.take_add_one, List.getElem?_eq_getElem h, List.getD_eq_getElem?_getD, List.getElem?_eq_getElem h]; rfl
theorem ord_num (l : List Int) : ∀ k, k ≤ l.length → (ordTo l k ↔ (numS l k).1 = l.take k) ∧ (ordTo l k → mostOf l k = (numS l k).2 - 1 ∧ ∀ v : Int, 0 ≤ v → v < (numS l k).2 → ∃ i, i < k ∧ l.getD i 0 = v)
  | 0, _ => ⟨⟨fun _ => rfl, fun _ i hi => by omega⟩, fun _ => ⟨rfl, fun v h0 h1 => by simp [numS] at h1; omega⟩⟩
  | k + 1, hk => by
    obtain ⟨IH, IH2⟩ := ord_num l k (by omega)
    have hx := getD_mem (l := l) (i := k) (by omega)
    by_cases ho : ordTo l k
    · obtain ⟨hm, hv⟩ := IH2 ho
      have he := IH.1 ho
      rw [ordTo_succ, take_snocI (by omega), hm]
      by_cases hlt : l.idxOf (l.getD k 0) < k
      · have hg : (numS l k).1.getD (l.idxOf (l.getD k 0)) 0 = l.getD k 0 := by
          rw [he, List.getD_eq_getElem?_getD, List.getElem?_take_of_lt hlt, ← List.getD_eq_getElem?_getD, idx_get hx]
        have hb := numS_bd l k _ (getD_mem (l := (numS l k).1) (i := l.idxOf (l.getD k 0)) (by rw [numS_len]; exact hlt))
        rw [hg] at hb
        rw [numS, if_pos hlt, hg]
        refine ⟨⟨fun _ => by rw [he], fun _ => ⟨ho, hb.1, by omega⟩⟩, fun _ => ⟨by rw [mostOf, hm]; simp only; omega, fun v h0 h1 => ?_⟩⟩
        obtain ⟨i, hi, e⟩ := hv v h0 h1
        exact ⟨i, by omega, e⟩
      · rw [numS, if_neg hlt]
        have hne : ¬ (0 ≤ l.getD k 0 ∧ l.getD k 0 < (numS l k).2) := fun ⟨a, b⟩ => by
          obtain ⟨i, hi, e⟩ := hv _ a b
          have := idx_min (l := l) (j := i) (by omega) e
          omega
        refine ⟨⟨fun ⟨_, a, b⟩ => ?_, fun h => ?_⟩, fun ⟨_, a, b⟩ => ?_⟩
        · rw [he, show l.getD k 0 = ((numS l k).2 : Int) by omega]
        · have h2 := List.append_inj_right' h rfl
          simp only [List.cons.injEq, and_true] at h2
          exact ⟨ho, by omega, by omega⟩
        · have hx2 : l.getD k 0 = ((numS l k).2 : Int) := by omega
          refine ⟨by rw [mostOf, hm, hx2]; simp only; omega, fun v h0 h1 => ?_⟩
          rcases Int.lt_or_le v ((numS l k).2) with h3 | h3
          · obtain ⟨i, hi, e⟩ := hv v h0 h3
            exact ⟨i, by omega, e⟩
          · exact ⟨k, by omega, by simp only [Int.natCast_add] at h1; omega⟩
    · have hn : ¬ (numS l k).1 = l.take k := fun h => ho (IH.2 h)
      refine ⟨⟨fun h => absurd (ordTo_succ.1 h).1 ho, fun h => ?_⟩, fun h => absurd (ordTo_succ.1 h).1 ho⟩
      exfalso
      rw [take_snocI (by omega)] at h
      unfold numS at h
      split at h <;> exact hn (List.append_inj_left' h rfl)
theorem ordOk_num (l : List Int) : ordOk l = decide (num l = l) := by
  have := (ord_num l l.length (Nat.le_refl _)).1
  rw [List.take_of_length_le (Nat.le_refl _)] at this
  unfold ordOk num
  rw [Bool.eq_iff_iff, decide_eq_true_iff, decide_eq_true_iff]
  exact this

/-- numbering numbers changes nothing -/
theorem num_num (l : List Int) : num (num l) = num l := by
  have key : ∀ k, k ≤ l.length → ordTo (num l) k ∧ mostOf (num l) k = (numS l k).2 - 1 := by
    have pre : ∀ m k, k ≤ m → ∀ i, i < k → (numS l m).1.getD i 0 = (numS l k).1.getD i 0 := by
      intro m
      induction m with
      | zero => intro k hk i hi; omega
      | succ m ih =>
        intro k hk i hi
        rcases Nat.lt_or_eq_of_le hk with h | h
        · rw [← ih k (by omega) i hi]
          exact numS_pre1 l (by omega)
        · subst h; rfl
    intro k
    induction k with
    | zero => intro _; exact ⟨fun i hi => by omega, rfl⟩
    | succ k ih =>
      intro hk
      obtain ⟨h1, h2⟩ := ih (by omega)
      have L := numS_len l k
      have e : (num l).getD k 0 = (numS l (k + 1)).1.getD k 0 := pre _ _ hk _ (by omega)
      rw [ordTo_succ, mostOf, h2, e]
      by_cases hlt : l.idxOf (l.getD k 0) < k
      · rw [numS, if_pos hlt]
        simp only
        rw [getD_last L.symm]
        have hb := numS_bd l k _ (getD_mem (l := (numS l k).1) (i := l.idxOf (l.getD k 0)) (by omega))
        exact ⟨⟨h1, by omega, by omega⟩, by omega⟩
      · rw [numS, if_neg hlt]
        simp only
        rw [getD_last L.symm]
        exact ⟨⟨h1, by omega, by omega⟩, by omega⟩
  have h := (key l.length (Nat.le_refl _)).1
  have h2 := ordOk_num (num l)
  unfold ordOk at h2
  rw [num_len, decide_eq_true h] at h2
  exact of_decide_eq_true h2.symm
theorem num_ord (l : List Int) : ordOk (num l) = true := by rw [ordOk_num, num_num]; simp
theorem num_bd {l : List Int} {y : Int} (h : y ∈ num l) : 0 ≤ y ∧ y < l.length := by
  have := numS_bd l _ y h; have := numS_cnt l l.length; omega
theorem num_same (l : List Int) {i j : Nat} (hi : i < l.length) (hj : j < l.length) : l.getD i 0 = l.getD j 0 ↔ (num l).getD i 0 = (num l).getD j 0 := numS_same l _ (Nat.le_refl _) i j hi hj
theorem ord_bd {l : List Int} (h : ordOk l = true) {y : Int} (hy : y ∈ l) : 0 ≤ y ∧ y < l.length := by
  rw [ordOk_num] at h
  have e := of_decide_eq_true h
  rw [← e] at hy
  exact num_bd hy
end Go.Proofs.Ytegmoojjffkacaa
